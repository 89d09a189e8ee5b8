/-
  For any two of the five systems, any digits of these (the first 50): digits of two systems in one label are told; of one system none are, with letters or without; and a label of digits alone, of whatever script, fails by scripts just if Arabic and Devanagari stand beside one another (fascialaw10.MixedDigits answers true). No condition.
-/
import Derived.Test.YtjpmecdjlodaoaaDoorMixI
import Derived.Test.YtjpmecdjlodaoaaDoorFrame
import Derived.Deep.DeepCutAuto
import Derived.Test.YtjpmecdjlodaoaaDoorTie
import Derived.Test.YtjpmecdjlodaoaaDoorCards
import Derived.ProofKit
import Derived.Lay
import Derived.Stop.Joined
import Derived.SevenTiedAt
namespace Go.Proofs.YtjpmecdjlodaoaaDoor.mixedDigits
open Go.ChangeShapes Go.WideShapes Go.ChangeAt Go.RowKit Mix Rul Ucd

theorem mod5 (a : Int) (h0 : 0 ≤ a) : ∃ s : Int, a % 5 = s ∧ a.tmod 5 = s ∧ 0 ≤ s ∧ s < 5 := ⟨a % 5, rfl, Int.tmod_eq_emod_of_nonneg h0, by omega, by omega⟩
theorem mod10 (a : Int) (h0 : 0 ≤ a) : ∃ s : Int, a % 10 = s ∧ a.tmod 10 = s ∧ 0 ≤ s ∧ s < 10 := ⟨a % 10, rfl, Int.tmod_eq_emod_of_nonneg h0, by omega, by omega⟩
/-- what the two counts are behind so many -/
def us (k : Nat) (j : Nat) : Int := if j < k then 1 else 0
def fsC : List Value := [.int .i32 48, .int .i32 1632, .int .i32 1776, .int .i32 2406, .int .i32 65296]
def FB (w : World) (B : Nat) : Prop := w.heap[B]? = some (.cells fsC.toArray 21 (0, 0))
def UB (w : World) (B : Nat) (k : Nat) : Prop := w.heap[B]? = some (.cells #[.int .i64 (us k 0), .int .i64 (us k 1)] 39 (0, 0))
theorem FB.cell {w : World} {B : Nat} (h : FB w B) {s : Int} (hs : 0 ≤ s ∧ s < 5) : w.cell? ⟨B, s.toNat, none⟩ = some (.int .i32 (fs s)) := by
  rw [cell_of_row w B s.toNat _ _ _ h, List.getElem?_toArray]
  have : s = 0 ∨ s = 1 ∨ s = 2 ∨ s = 3 ∨ s = 4 := by omega
  rcases this with rfl | rfl | rfl | rfl | rfl <;> rfl
theorem UB.cell {w : World} {B k : Nat} (h : UB w B k) : (w.cell? ⟨B, 0, none⟩ = some (.int .i64 (us k 0)) ∧ w.cell? ⟨B, 1, none⟩ = some (.int .i64 (us k 1))) ∧ w.frozen? ⟨B, 0, none⟩ = false ∧ w.frozen? ⟨B, 1, none⟩ = false := by
  unfold UB at h
  simp [World.cell?, World.frozen?, h]
theorem UB.set0 {w : World} {B k : Nat} (h : UB w B k) (hp : k % 2 = 0) : UB (w.setCell ⟨B, 0, none⟩ (.int .i64 1)) B (k + 1) := by
  have e0 : us (k + 1) 0 = 1 := if_pos (by omega)
  have e1 : us (k + 1) 1 = us k 1 := by unfold us; by_cases h : 1 < k <;> simp <;> omega
  unfold UB at h ⊢
  rw [e0, e1]
  simp [World.setCell, Array.getElem?_modify, h]
theorem UB.set1 {w : World} {B k : Nat} (h : UB w B k) (hp : k % 2 = 1) : UB (w.setCell ⟨B, 1, none⟩ (.int .i64 1)) B (k + 1) := by
  have e0 : us (k + 1) 0 = us k 0 := by unfold us; rw [if_pos (by omega), if_pos (by omega)]
  have e1 : us (k + 1) 1 = 1 := if_pos (by omega)
  unfold UB at h ⊢
  rw [e0, e1]
  simp [World.setCell, Array.getElem?_modify, h]
theorem FB.go {a b : World} {B C : Nat} (h : FB a B) (hB : Below C a b) (hC : B < C) : FB b B := (hB.block B hC).trans h
theorem UB.go {a b : World} {B C k : Nat} (h : UB a B k) (hB : Below C a b) (hC : B < C) : UB b B k := (hB.block B hC).trans h
set_option maxRecDepth 100000 in
theorem arab_any (a s : Int) (_h0 : 0 ≤ a) (_e : a % 5 = s) (_e' : a.tmod 5 = s) (w : World) : Calls Tryd.prog 18 #[.int .u8 a] w (IsB (s == 1 || s == 2) w) := by
  by_cases h : s = 1
  · have hb : (s == 1) = true := by simpa using h
    clear h
    go_enter Tryd.func18, Tryd.ntmps18
    go_wp2_with fail
    go_ret
    exact ⟨by rw [hb]; rfl, Below.refl _ _⟩
  · have hb : (s == 1) = false := by simpa using h
    clear h
    go_enter Tryd.func18, Tryd.ntmps18
    go_wp2_with fail
    go_ret
    exact ⟨by rw [hb]; rfl, Below.refl _ _⟩
set_option maxRecDepth 100000 in
theorem deva_any (a s : Int) (_h0 : 0 ≤ a) (_e : a % 5 = s) (_e' : a.tmod 5 = s) (w : World) : Calls Tryd.prog 19 #[.int .u8 a] w (IsB (s == 3) w) := by
  go_enter Tryd.func19, Tryd.ntmps19
  go_wp2_with fail
  go_ret
  exact ⟨rfl, Below.refl _ _⟩
set_option maxRecDepth 100000 in
set_option maxHeartbeats 8000000 in
theorem walk (a b : Int) (A : Option Addr) (n cap : Nat) (ps : List Int) (w : World) (ha0 : 0 ≤ a) (_ha1 : a ≤ 255) (hb0 : 0 ≤ b) (_hb1 : b ≤ 255) (hin : InRow .u8 w A n cap ps) : Calls Tryd.prog 6 #[.int .u8 a, .int .u8 b, .slice A n cap] w fun e w' => e = .returned (.bool true) ∧ Below w.heap.size w w' := by
  obtain ⟨hlen, hcap, _, hrow, hwf⟩ := hin
  have HAW := Lib.hid awake10_any
  obtain ⟨sA, ea, ea', hA⟩ := mod5 a ha0
  obtain ⟨sB, eb, eb', hB⟩ := mod5 b hb0
  obtain ⟨M, hM, hM50, hMn, hM1, hM2⟩ : ∃ M : Nat, M = min n 50 ∧ M ≤ 50 ∧ M ≤ n ∧ min (n : Int) 50 = (M : Int) ∧ (if (50 : Int) < n then (50 : Int) else n) = (M : Int) := ⟨min n 50, rfl, by omega, by omega, by omega, by split <;> omega⟩
  go_enter Tryd.func6, Tryd.ntmps6
  go_upto_region 5 with fail
  have f0 : FB ((w.alloc (.cells #[.int .i32 48, .int .i32 1632, .int .i32 1776, .int .i32 2406, .int .i32 65296] 21)).alloc (.cells #[.int .i64 0, .int .i64 0] 39)) w.heap.size := kept (World.alloc_heap_new w _)
  have u0 : UB ((w.alloc (.cells #[.int .i32 48, .int .i32 1632, .int .i32 1776, .int .i32 2406, .int .i32 65296] 21)).alloc (.cells #[.int .i64 0, .int .i64 0] 39)) (w.heap.size + 1) 0 := by
    have := World.alloc_heap_new (w.alloc (.cells #[.int .i32 48, .int .i32 1632, .int .i32 1776, .int .i32 2406, .int .i32 65296] 21)) (.cells #[.int .i64 0, .int .i64 0] 39)
    rwa [World.size_alloc] at this
  have hs0 : w.heap.size + 2 ≤ ((w.alloc (.cells #[.int .i32 48, .int .i32 1632, .int .i32 1776, .int .i32 2406, .int .i32 65296] 21)).alloc (.cells #[.int .i64 0, .int .i64 0] 39)).heap.size := by rw [World.size_alloc, World.size_alloc]; omega
  have hB0 : Below w.heap.size w ((w.alloc (.cells #[.int .i32 48, .int .i32 1632, .int .i32 1776, .int .i32 2406, .int .i32 65296] 21)).alloc (.cells #[.int .i64 0, .int .i64 0] 39)) := up_alloc (up_alloc (Below.refl _ _))
  generalize (w.alloc (.cells #[.int .i32 48, .int .i32 1632, .int .i32 1776, .int .i32 2406, .int .i32 65296] 21)).alloc (.cells #[.int .i64 0, .int .i64 0] 39) = w1 at f0 u0 hs0 hB0 ⊢
  have HN := Lib.hid hlen
  have HWF := Lib.hid hwf
  rw [← hM]
  clear hM hM1 hM2 hlen hwf hcap
  go_loopg [8, 25] M (fun m s8 s25 wr => ∃ (k : Nat) (A1 : Option Addr) (c1 : Nat), s25 = .int .i64 (k : Int) ∧ s8 = .slice A1 k c1 ∧ m = M - k ∧ k ≤ M ∧ FB wr w.heap.size ∧ UB wr (w.heap.size + 1) k ∧ wr.ownsRow (w.heap.size + 2) 21 1 (.slice A1 k c1) k (cl .i32 (dl sA sB ps k)) ∧ w.heap.size + 2 ≤ wr.heap.size ∧ Below w.heap.size w wr)
  case atStart => exact ⟨0, none, 0, rfl, rfl, rfl, Nat.zero_le _, f0, u0, World.ownsRow_nil _ _ _ _, hs0, hB0⟩
  case round =>
    clear f0 u0 hs0 hB0
    obtain ⟨k, A1, c1, rfl, rfl, rfl, hk, hF, hU, hO, hsz, hBw⟩ := hrel
    by_cases hlt : k < M
    · have hltz : (k : Int) < (M : Int) := by omega
      obtain ⟨bq, oq, rfl, hb', hcc⟩ := (hrow.below hBw).at_ (by have := HN.out; rw [List.length_map]; omega)
      have c0 := cell8 hcc k (by rw [HN.out]; omega)
      have hy := wf_u8 (HWF.out _ (mems (l := ps) (i := k) (by rw [HN.out]; omega)))
      have HS := Lib.hid (dl_succ sA sB ps k)
      have HE : Hid (∀ y s d, ps[k]! = y → y % 10 = d → sy sA sB k = s → el sA sB ps k = fs s + d) := Lib.hid (fun y s d h1 h2 h3 => by unfold el; rw [h1, h2, h3])
      obtain ⟨y, hy0⟩ : ∃ y, ps[k]! = y := ⟨_, rfl⟩
      rw [hy0] at c0 hy
      obtain ⟨d, ed, ed', hd⟩ := mod10 y hy.1
      have HE2 := Lib.hid (fun s => HE.out y s d hy0 ed)
      clear hcc hy0 HE
      rcases Nat.mod_two_eq_zero_or_one k with hp | hp
      · have hp1 : (k : Int) % 2 = 0 := by omega
        have hp2 : (k : Int).tmod 2 = 0 := by rw [Int.tmod_eq_emod_of_nonneg (by omega)]; exact hp1
        have HSY := Lib.hid (HE2.out sA (by unfold sy; rw [if_pos hp]))
        have hq := fs_at hA hd
        have hqr := hq.2.2
        obtain ⟨⟨q0, q1⟩, r0, r1⟩ := hU.cell
        have hUl : w.heap.size + 1 < wr.heap.size := by omega
        have hFl : w.heap.size < wr.heap.size := by omega
        clear hq
        go_upto_region 9 with fail
        have hU2 : UB ((wr.setCell ⟨w.heap.size + 1, 0, none⟩ (.int .i64 1)).alloc (.cells #[.int .u8 a, .int .u8 b] 5)) (w.heap.size + 1) (k + 1) := kept (hU.set0 hp)
        have hF2 : FB ((wr.setCell ⟨w.heap.size + 1, 0, none⟩ (.int .i64 1)).alloc (.cells #[.int .u8 a, .int .u8 b] 5)) w.heap.size := kept ((Below.heap_setCell _ _ _ _ (by simp)).trans hF)
        have hO2 := (ownsRow_setCell_below hO (a := ⟨w.heap.size + 1, 0, none⟩) (by show w.heap.size + 1 < w.heap.size + 2; omega) (.int .i64 1)).alloc (.cells #[.int .u8 a, .int .u8 b] 5)
        have hB2 : Below w.heap.size w ((wr.setCell ⟨w.heap.size + 1, 0, none⟩ (.int .i64 1)).alloc (.cells #[.int .u8 a, .int .u8 b] 5)) := up_alloc (up_set hBw (by omega))
        have hs2 : w.heap.size + 2 ≤ ((wr.setCell ⟨w.heap.size + 1, 0, none⟩ (.int .i64 1)).alloc (.cells #[.int .u8 a, .int .u8 b] 5)).heap.size := by rw [World.size_alloc, size_set]; omega
        generalize (wr.setCell ⟨w.heap.size + 1, 0, none⟩ (.int .i64 1)).alloc (.cells #[.int .u8 a, .int .u8 b] 5) = W2 at hU2 hF2 hO2 hB2 hs2 ⊢
        have fc := hF2.cell hA
        have hwd : IntKind.i32.wrap d = d := by simp [IntKind.wrap, IntKind.bits, IntKind.signed]; omega
        have hwe : IntKind.i32.wrap (fs sA + d) = fs sA + d := by simp [IntKind.wrap, IntKind.bits, IntKind.signed]; omega
        clear hU hF hO hsz hBw q0 q1 r0 r1 hqr
        go_wp2_with (first
          | (at_builtin; (refine app_keep (w.heap.size + 2) W2 _ _ (by rfl) (.slice A1 k c1) k (k + 1) 1 (dl sA sB ps k) [fs sA + d] (by rfl) hO2 hs2 (by rfl) rfl rfl (by omega) (by rfl) ?_; intro A2 c2 w3 hO3 _ hB3)) | fail)
        go_roundg (M - (k + 1))
        case measure => omega
        case rel => exact ⟨k + 1, A2, c2, by go_num, rfl, rfl, by omega, hF2.go hB3 (by omega), hU2.go hB3 (by omega), by rw [HS.out, HSY.out]; exact hO3, Nat.le_trans hs2 hB3.size, hB2.trans (hB3.mono (by omega))⟩
      · have hp1 : (k : Int) % 2 = 1 := by omega
        have hp2 : (k : Int).tmod 2 = 1 := by rw [Int.tmod_eq_emod_of_nonneg (by omega)]; exact hp1
        have HSY := Lib.hid (HE2.out sB (by unfold sy; rw [if_neg (by omega)]))
        have hq := fs_at hB hd
        have hqr := hq.2.2
        obtain ⟨⟨q0, q1⟩, r0, r1⟩ := hU.cell
        have hUl : w.heap.size + 1 < wr.heap.size := by omega
        have hFl : w.heap.size < wr.heap.size := by omega
        clear hq
        go_upto_region 9 with fail
        have hU2 : UB ((wr.setCell ⟨w.heap.size + 1, 1, none⟩ (.int .i64 1)).alloc (.cells #[.int .u8 a, .int .u8 b] 5)) (w.heap.size + 1) (k + 1) := kept (hU.set1 hp)
        have hF2 : FB ((wr.setCell ⟨w.heap.size + 1, 1, none⟩ (.int .i64 1)).alloc (.cells #[.int .u8 a, .int .u8 b] 5)) w.heap.size := kept ((Below.heap_setCell _ _ _ _ (by simp)).trans hF)
        have hO2 := (ownsRow_setCell_below hO (a := ⟨w.heap.size + 1, 1, none⟩) (by show w.heap.size + 1 < w.heap.size + 2; omega) (.int .i64 1)).alloc (.cells #[.int .u8 a, .int .u8 b] 5)
        have hB2 : Below w.heap.size w ((wr.setCell ⟨w.heap.size + 1, 1, none⟩ (.int .i64 1)).alloc (.cells #[.int .u8 a, .int .u8 b] 5)) := up_alloc (up_set hBw (by omega))
        have hs2 : w.heap.size + 2 ≤ ((wr.setCell ⟨w.heap.size + 1, 1, none⟩ (.int .i64 1)).alloc (.cells #[.int .u8 a, .int .u8 b] 5)).heap.size := by rw [World.size_alloc, size_set]; omega
        generalize (wr.setCell ⟨w.heap.size + 1, 1, none⟩ (.int .i64 1)).alloc (.cells #[.int .u8 a, .int .u8 b] 5) = W2 at hU2 hF2 hO2 hB2 hs2 ⊢
        have fc := hF2.cell hB
        have hwd : IntKind.i32.wrap d = d := by simp [IntKind.wrap, IntKind.bits, IntKind.signed]; omega
        have hwe : IntKind.i32.wrap (fs sB + d) = fs sB + d := by simp [IntKind.wrap, IntKind.bits, IntKind.signed]; omega
        clear hU hF hO hsz hBw q0 q1 r0 r1 hqr
        go_wp2_with (first
          | (at_builtin; (refine app_keep (w.heap.size + 2) W2 _ _ (by rfl) (.slice A1 k c1) k (k + 1) 1 (dl sA sB ps k) [fs sB + d] (by rfl) hO2 hs2 (by rfl) rfl rfl (by omega) (by rfl) ?_; intro A2 c2 w3 hO3 _ hB3)) | fail)
        go_roundg (M - (k + 1))
        case measure => omega
        case rel => exact ⟨k + 1, A2, c2, by go_num, rfl, rfl, by omega, hF2.go hB3 (by omega), hU2.go hB3 (by omega), by rw [HS.out, HSY.out]; exact hO3, Nat.le_trans hs2 hB3.size, hB2.trans (hB3.mono (by omega))⟩
    · obtain rfl : k = M := by omega
      have hltz : ¬ ((k : Nat) : Int) < (k : Int) := by omega
      obtain ⟨⟨_, q1⟩, _, _⟩ := hU.cell
      have hL := dl_len sA sB ps k
      have HD := Lib.hid (fun W (h : Row W W.heap.size A1 (cl .i32 (dl sA sB ps k))) => Digits_any (dl sA sB ps k) A1 k c1 W hL (by omega) h)
      have HD2 := Lib.hid (fun W A2 c2 (h : Row W W.heap.size A2 (cl .i32 (dl sA sB ps k ++ [97, 1072]))) => Digits_any (dl sA sB ps k ++ [97, 1072]) A2 (k + 2) c2 W (by rw [List.length_append, hL]; rfl) (by omega) h)
      have HK := Lib.hid (fun W (h : Row W W.heap.size A1 (cl .i32 (dl sA sB ps k))) => Check_any (dl sA sB ps k) A1 k c1 W hL (by omega) h)
      rw [dgs_more dg_two] at HD2
      rw [dgs_dl hA hB] at HD HD2
      rw [chk_dl hA hB] at HK
      generalize dl sA sB ps k = l at hO HD HD2 HK
      have hrl := own_row hO
      have hu1 : us k 1 = if 2 ≤ k then 1 else 0 := by unfold us; split <;> split <;> first | rfl | omega
      rw [hu1] at q1
      have HWT : Hid (wnt sA sB k = (decide (k < 2) || decide (sA = sB))) := Lib.hid rfl
      clear hu1 hF hU hL
      have HCR : Hid (crs sA sB = (((sA == 1 || sA == 2) && sB == 3) || ((sB == 1 || sB == 2) && sA == 3))) := Lib.hid rfl
      have HaA := Lib.hid (arab_any a sA ha0 ea ea')
      have HaB := Lib.hid (arab_any b sB hb0 eb eb')
      have HdA := Lib.hid (deva_any a sA ha0 ea ea')
      have HdB := Lib.hid (deva_any b sB hb0 eb eb')
      go_upto_region 11 with fail
      go_cut [13] (fun s13 wx => s13 = .bool (wnt sA sB k) ∧ wx = wr)
      case first =>
        rcases Decidable.em (2 ≤ k) with h2 | h2
        · rw [if_pos h2] at q1
          have hd : decide (k < 2) = false := decide_eq_false (by omega)
          have HV : Hid (wnt sA sB k = (sA == sB)) := Lib.hid (by rw [HWT.out, hd, Bool.false_or]; rw [Bool.eq_iff_iff]; simp)
          clear hd h2
          go_wp2_with fail
          go_meet
          exact ⟨by rw [HV.out], rfl⟩
        · rw [if_neg h2] at q1
          have hd : decide (k < 2) = true := decide_eq_true (by omega)
          have HV : Hid (wnt sA sB k = true) := Lib.hid (by rw [HWT.out, hd]; rfl)
          clear hd h2
          go_wp2_with fail
          go_meet
          exact ⟨by rw [HV.out], rfl⟩
      case rest =>
        obtain ⟨rfl, rfl⟩ := hcut
        rename World => wr
        clear ea ea' eb eb' HWT
        generalize wnt sA sB k = wt at HD HD2 HK ⊢
        generalize crs sA sB = cr at HCR HK
        generalize (sA == 1 || sA == 2) = pa at HaA HCR
        generalize (sB == 1 || sB == 2) = pb at HaB HCR
        generalize (sA == 3) = ra at HdA HCR
        generalize (sB == 3) = rb at HdB HCR
        have hww : (wt != wt) = false := by simp
        obtain ⟨ck, hck⟩ : ∃ ck : Int, (if (decide (2 ≤ k) && cr) = true then (13 : Int) else if wt = true then 0 else 14) = ck := ⟨_, rfl⟩
        rw [hck] at HK
        have HCK := Lib.hid hck
        clear hck
        have hsz2 : w.heap.size + 2 ≤ wr.heap.size := hsz
        go_upto_region 17 with (first
          | (go_at_call 12; have hflag := hO5; refine (HD2.out _ _ _ (own_row hO4)).mono ?_; rintro e w6 ⟨rfl, hB6⟩)
          | (go_at_call 12; refine (HD.out _ hrl).mono ?_; rintro e w3 ⟨rfl, hB3⟩; have hO3 := own_below hO hB3; have hs3 := hB3.size)
          | (at_builtin; (refine app_keep (w.heap.size + 2) w3 _ _ (by rfl) (.slice A1 k c1) k (k + 2) 2 l [97, 1072] (by rfl) hO3 (by omega) (by rfl) rfl rfl (by omega) (by rfl) ?_; intro A4 c4 w4 hO4 hO5 hB4))
          | (go_at_call 14; refine (HK.out _ (own_row (own_below hO5 hB6))).mono ?_; rintro e w7 ⟨rfl, hB7⟩)
          | fail)
        have q3 := (hB3.cell (p := ⟨w.heap.size + 1, 1, none⟩) (by show w.heap.size + 1 < wr.heap.size; omega)).trans q1
        have q4 := (hB4.cell (p := ⟨w.heap.size + 1, 1, none⟩) (by show w.heap.size + 1 < w.heap.size + 2; omega)).trans q3
        have hs4 : w.heap.size + 2 ≤ w4.heap.size := Nat.le_trans (Nat.le_trans hsz2 hs3) hB4.size
        have q6 := (hB6.cell (p := ⟨w.heap.size + 1, 1, none⟩) (by show w.heap.size + 1 < w4.heap.size; omega)).trans q4
        have hs6 := Nat.le_trans hs4 hB6.size
        have q7 := (hB7.cell (p := ⟨w.heap.size + 1, 1, none⟩) (by show w.heap.size + 1 < w6.heap.size; omega)).trans q6
        have hBA : Below w.heap.size w w7 := upB (upB ((upB hBw hB3).trans (hB4.mono (by omega))) hB6) hB7
        clear q1 q3 q4 q6 hB3 hB4 hB6 hB7 hO hO3 hO4 hO5 hs3 hs4 hs6 hrl HD HD2 HK hww hflag
        have hW : Below w7.heap.size w7 w7 := Below.refl _ _
        go_cut [99] (fun s99 wx => s99 = .bool (decide (2 ≤ k) && cr) ∧ Below w7.heap.size w7 wx)
        case first =>
          rcases Decidable.em (2 ≤ k) with h2 | h2
          · rw [if_pos h2] at q7
            have HV : Hid ((decide (2 ≤ k) && cr) = cr) := Lib.hid (by rw [decide_eq_true h2]; rfl)
            clear h2
            cases pa with
            | true =>
              cases rb with
              | true =>
                go_wp2_with fail
                refine (HaA.out _).mono ?_
                rintro e wq ⟨rfl, hBq⟩
                have hW := upB hW hBq
                clear hBq
                go_wp2_with fail
                refine (HdB.out _).mono ?_
                rintro e wq ⟨rfl, hBq⟩
                have hW := upB hW hBq
                clear hBq
                go_wp2_with fail
                go_meet
                exact ⟨by rw [HV.out, HCR.out]; rfl, hW⟩
              | false =>
                cases pb with
                | true =>
                  go_wp2_with fail
                  refine (HaA.out _).mono ?_
                  rintro e wq ⟨rfl, hBq⟩
                  have hW := upB hW hBq
                  clear hBq
                  go_wp2_with fail
                  refine (HdB.out _).mono ?_
                  rintro e wq ⟨rfl, hBq⟩
                  have hW := upB hW hBq
                  clear hBq
                  go_wp2_with fail
                  refine (HaB.out _).mono ?_
                  rintro e wq ⟨rfl, hBq⟩
                  have hW := upB hW hBq
                  clear hBq
                  go_wp2_with fail
                  refine (HdA.out _).mono ?_
                  rintro e wq ⟨rfl, hBq⟩
                  have hW := upB hW hBq
                  clear hBq
                  go_wp2_with fail
                  go_meet
                  exact ⟨by rw [HV.out, HCR.out]; rfl, hW⟩
                | false =>
                  go_wp2_with fail
                  refine (HaA.out _).mono ?_
                  rintro e wq ⟨rfl, hBq⟩
                  have hW := upB hW hBq
                  clear hBq
                  go_wp2_with fail
                  refine (HdB.out _).mono ?_
                  rintro e wq ⟨rfl, hBq⟩
                  have hW := upB hW hBq
                  clear hBq
                  go_wp2_with fail
                  refine (HaB.out _).mono ?_
                  rintro e wq ⟨rfl, hBq⟩
                  have hW := upB hW hBq
                  clear hBq
                  go_wp2_with fail
                  go_meet
                  exact ⟨by rw [HV.out, HCR.out]; rfl, hW⟩
            | false =>
              cases pb with
              | true =>
                go_wp2_with fail
                refine (HaA.out _).mono ?_
                rintro e wq ⟨rfl, hBq⟩
                have hW := upB hW hBq
                clear hBq
                go_wp2_with fail
                refine (HaB.out _).mono ?_
                rintro e wq ⟨rfl, hBq⟩
                have hW := upB hW hBq
                clear hBq
                go_wp2_with fail
                refine (HdA.out _).mono ?_
                rintro e wq ⟨rfl, hBq⟩
                have hW := upB hW hBq
                clear hBq
                go_wp2_with fail
                go_meet
                exact ⟨by rw [HV.out, HCR.out]; rfl, hW⟩
              | false =>
                go_wp2_with fail
                refine (HaA.out _).mono ?_
                rintro e wq ⟨rfl, hBq⟩
                have hW := upB hW hBq
                clear hBq
                go_wp2_with fail
                refine (HaB.out _).mono ?_
                rintro e wq ⟨rfl, hBq⟩
                have hW := upB hW hBq
                clear hBq
                go_wp2_with fail
                go_meet
                exact ⟨by rw [HV.out, HCR.out]; rfl, hW⟩
          · rw [if_neg h2] at q7
            have HV : Hid ((decide (2 ≤ k) && cr) = false) := Lib.hid (by rw [decide_eq_false h2]; rfl)
            clear h2
            go_wp2_with fail
            go_meet
            exact ⟨by rw [HV.out], hW⟩
        case rest =>
          obtain ⟨rfl, hBx⟩ := hcut
          have hBz := upB hBA hBx
          clear hBx hBA hW
          generalize (decide (2 ≤ k) && cr) = gg at HCK ⊢
          cases gg with
          | true =>
            obtain rfl : 13 = ck := HCK.out
            go_wp2_with (first | (go_at_call 16; refine (HAW.out _).mono ?_; rintro e w90 ⟨rfl, hB90⟩) | fail)
            go_ret
            exact ⟨rfl, upB hBz hB90⟩
          | false =>
            cases wt with
            | true =>
              obtain rfl : 0 = ck := HCK.out
              go_wp2_with (first | (go_at_call 16; refine (HAW.out _).mono ?_; rintro e w90 ⟨rfl, hB90⟩) | fail)
              go_ret
              exact ⟨rfl, upB hBz hB90⟩
            | false =>
              obtain rfl : 14 = ck := HCK.out
              go_wp2_with (first | (go_at_call 16; refine (HAW.out _).mono ?_; rintro e w90 ⟨rfl, hB90⟩) | fail)
              go_ret
              exact ⟨rfl, upB hBz hB90⟩

/-! From the walk to the given statement. -/
set_option linter.unusedVariables false
theorem own : ownKnob Tryd.prog.godebug = none := by kernel_rfl
theorem laidOut : laidOutB Tryd.prog = true := by kernel_rfl
set_option maxRecDepth 100000 in
theorem lifted (os : Os) (started : os.Started) (H : Type) (enc : TypeId × Value → H) :
    ReturnsInHanded {} Tryd.checked os 6 .any (fun w args => (Rows.mixedDigitsSpec.pre enc Tryd.prog Tryd.f6 [] false w args ∧ laidMetH Tryd.prog Rows.mixedDigitsRow.laid w) ∧ sizedMet enc Tryd.prog Tryd.f6 (OpenSpec.ofChange Rows.mixedDigitsSpec) false w args)
      (Rows.mixedDigitsSpec.post enc Tryd.prog Tryd.f6 false true false false) := by
  refine returnsInHanded_of_change_and (C := Tryd.checked) (X := fun w _ => laidMetH Tryd.prog Rows.mixedDigitsRow.laid w) (fun _ _ _ hh h => h.of_heap hh) own started (by kernel_rfl) Tryd.func6
    (ChangeSpec.witness_shaped (enc := enc) (C := Tryd.checked) (os := os) (X := fun w _ => laidMetH Tryd.prog Rows.mixedDigitsRow.laid w) false (World.laidAll Tryd.prog os Rows.mixedDigitsRow.laid) #[.int .u8 0, .int .u8 0, .slice none 0 0] 8 (World.laidAll_os _ _ _)
      (World.shaped_of_ZipB (by kernel_rfl) (by kernel_rfl)) (by kernel_rfl) (by kernel_rfl) (by kernel_rfl)
      (by rw [MakeChecks.laidMetH_plain _ _ _ (by kernel_rfl)]; exact laidMet_laidAll _ (by kernel_rfl) (by kernel_rfl))) ?_
  intro W base args ds gs before hval0 hW _ _ hL _
  have hval : ∀ (j : Nat) t v, Tryd.f6.params[j]? = some t → args[j]? = some v → Value.okWide Tryd.prog W .any base t v := hval0
  have hW' := hW
  obtain ⟨p, q, hA0, hV, rfl, _, _⟩ := hW
  have hA : DataW.TrodAll enc Tryd.prog W 0 (fun _ => true) true Tryd.f6.params.toList args.toList ds p := hA0
  rw [Tryd.params6] at hA hval
  obtain ⟨v0, vs0, d0, ds0, p0, q0, hargs, rfl, rfl, h0, r0⟩ := trodAll_cons hA
  obtain ⟨v1, vs1, d1, ds1, p1, q1, rfl, rfl, rfl, h1, r1⟩ := trodAll_cons r0
  obtain ⟨v2, vs2, d2, ds2, p2, q2, rfl, rfl, rfl, h2, r2⟩ := trodAll_cons r1
  obtain ⟨rfl, rfl, rfl⟩ := trodAll_nil r2
  obtain rfl : args = #[v0, v1, v2] := by cases args; simp_all
  obtain ⟨rfl, rfl⟩ := trodVars_none hV
  obtain ⟨a0, rfl, rfl, rfl, w0⟩ := open_int Tryd.underlying5 (hval 0 5 v0 rfl rfl) h0
  have b0 : 0 ≤ a0 ∧ a0 ≤ 255 := by simpa [Lit.wf, IntKind.min, IntKind.max, IntKind.signed, IntKind.bits] using w0
  obtain ⟨a1, rfl, rfl, rfl, w1⟩ := open_int Tryd.underlying5 (hval 1 5 v1 rfl rfl) h1
  have b1 : 0 ≤ a1 ∧ a1 ≤ 255 := by simpa [Lit.wf, IntKind.min, IntKind.max, IntKind.signed, IntKind.bits] using w1
  obtain ⟨a2, len2, cap2, rfl⟩ := okWide_slice Tryd.underlying24 (hval 2 24 v2 rfl rfl)
  have k2 := h2
  have lt2 : ∀ x ∈ p2, x.block < W.heap.size := by obtain ⟨m, hm⟩ := k2; exact DataW.trod_lt m _ _ _ hm
  obtain ⟨z2, w2⟩ := in_row Tryd.underlying24 Tryd.underlying5 (by kernel_rfl) h2
  clear hA0 hval0
  refine (walk a0 a1 a2 len2 cap2 z2 W b0.1 b0.2 b1.1 b1.2 w2).mono fun e W' ⟨he, bel⟩ => ?_
  subst he
  exact ⟨_, rfl, _, _, _, [], _, [], hW', trodAll_mk1 (shut_bool Tryd.underlying4 _), (trodAll_cons_mk (shut_int Tryd.underlying5 w0) (trodAll_cons_mk (shut_int Tryd.underlying5 w1) (trodAll_cons_mk (Below.trod laidOut (by kernel_rfl) (of_decide_eq_true (by kernel_rfl)) k2 bel lt2) trodAll_mk0))), rfl, bel.frame _, fun h => by cases h⟩

theorem row_holds : Rows.MixedDigitsSaid :=
  OpenClaim.holds_of_wide 6 Tryd.f6 rfl rfl rfl rfl rfl rfl rfl ⟨rfl, rfl, rfl, rfl, rfl⟩ rfl rfl rfl rfl rfl (by kernel_rfl) Tryd.func6 (by kernel_rfl)
    (of_decide_eq_true (by kernel_rfl)) (by unfold Func.isWrapper; first | (rw [if_pos (by decide +kernel)]; kernel_rfl) | (rw [if_neg (by decide +kernel)]; exact ⟨rfl, rfl⟩))
    (fun os started H enc _ => lifted os started H enc)

theorem proved : Rows.MixedDigitsCardSaid :=
  Claim7.holds_tied_plain_at .later [] [.data, .data, .data, .data, .sentinel, .sentinel, .pinned] true (true, "894162bb662dbb9bbc7214303acd8c2af297c2ae42e7ec5e5cea64e1b3bfb4cd") true
    row_holds (fun _ h => by cases h) (by kernel_rfl) (fun _ h => by cases h) mixedDigits_row_tie rfl ⟨rfl, rfl⟩ (by kernel_rfl) rfl
    (fun f fn hf hfn => by
      obtain rfl : f = 6 := Option.some.inj ((show Tryd.prog.funcNamed "fascia/fascialaw10.MixedDigits" = some 6 by kernel_rfl).symm.trans hf) |>.symm
      obtain rfl : fn = Tryd.f6 := (Option.some.inj (Tryd.func6.symm.trans hfn)).symm
      exact ⟨by kernel_rfl, fun j t ht => by
        rw [Tryd.params6] at ht
        have hm : t ∈ [5, 5, 24] := by simpa using Array.mem_of_getElem? ht
        have hall : ([5, 5, 24].all fun u => !Tryd.prog.wantsStandIn u) = true := by kernel_rfl
        exact (show Tryd.prog.wantsStandIn t = false by simpa using List.all_eq_true.1 hall t hm)⟩)
    (by kernel_rfl)
end Go.Proofs.YtjpmecdjlodaoaaDoor.mixedDigits
