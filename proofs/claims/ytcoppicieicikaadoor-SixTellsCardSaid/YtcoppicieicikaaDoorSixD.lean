/-
  six: Run; Show.
-/
import Derived.Test.YtcoppicieicikaaDoorSixC
namespace Go.Proofs.YtcoppicieicikaaDoor.Sx
open Go.RowKit Go.Shelf

/-- no longer row of noughts -/
def NL (x : List Nat) (L : Nat) : Prop := ∀ k' n', 2 ≤ n' → k' + n' ≤ 8 → L < n' → ¬ zr x k' n'
/-- none as long, ahead -/
def NA (x : List Nat) (L a : Nat) : Prop := ∀ k', k' < a → ¬ zr x k' L
theorem run_found {x : List Nat} {L a : Nat} (h1 : 2 ≤ L) (h2 : a + L ≤ 8) (hL : NL x L) (hA : NA x L a) (hz : zr x a L) : IsRun x a L :=
  .inr ⟨h1, h2, hz, fun k' n' g1 g2 g3 => by
    rcases g3 with g3 | ⟨rfl, g3⟩
    · exact hL k' n' g1 g2 g3
    · exact hA k' g3⟩
theorem run_none {x : List Nat} (hL : NL x 1) : IsRun x 0 0 := .inl ⟨rfl, rfl, fun k' n' g1 g2 => hL k' n' g1 g2 (by omega)⟩
theorem NL_next {x : List Nat} {L a : Nat} (hL : NL x L) (hA : NA x L a) (ha : a + L = 9) : NL x (L - 1) := fun k' n' g1 g2 g3 => by
  by_cases e : n' = L
  · subst e
    exact hA k' (by omega)
  · exact hL k' n' g1 g2 (by omega)
set_option maxRecDepth 100000 in
set_option maxHeartbeats 1000000 in
theorem Run_any (x : List Nat) (h8 : x.length = 8) (k n : Nat) (hr : IsRun x k n) (w : World) : Calls Tryd.prog 11 #[av x] w (Tells (.tuple #[.int .i64 (k : Int), .int .i64 (n : Int)]) w) := by
  have H8 := Lib.hid h8
  have HR := Lib.hid hr
  have h0 := Lib.hid (Hx.new w x)
  have hB0 := Lib.hid (upA w (.cells (cu x).toArray 23))
  clear h8 hr
  go_enter Tryd.func11, Tryd.ntmps11
  go_upto_region 1 with fail
  generalize w.alloc (.cells (cu x).toArray 23) = w1 at h0 hB0 ⊢
  go_wp2_with fail
  go_loopg [4] 8 (fun m s4 wr => ∃ L : Nat, s4 = .int .i64 (L : Int) ∧ L = m ∧ 1 ≤ L ∧ L ≤ 8 ∧ Hid (NL x L) ∧ Hid (Hx wr w.heap.size x) ∧ Hid (Below w.heap.size w wr))
  case atStart => exact ⟨8, rfl, rfl, by decide, Nat.le_refl _, Lib.hid (fun k' n' g1 g2 g3 => by omega), h0, hB0⟩
  case round =>
    clear h0 hB0
    obtain ⟨L, rfl, rfl, hL1, hL8, HNL, HX, HB⟩ := hrel
    by_cases hlt : 1 < L
    · obtain ⟨b, hb⟩ : ∃ b : Nat, 8 - (L : Int) + 1 = (b : Int) := ⟨9 - L, by omega⟩
      have hbL : b + L = 9 := by omega
      have hb8 : b ≤ 7 := by omega
      have hdl : decide ((1 : Int) < (L : Int)) = true := decide_eq_true (by omega)
      go_wp2_with fail
      go_loopg [13] b (fun m s13 wx => ∃ a : Nat, s13 = .int .i64 (a : Int) ∧ b - a = m ∧ a ≤ b ∧ Hid (NA x L a) ∧ Hid (Hx wx w.heap.size x) ∧ Hid (Below w.heap.size w wx))
      case atStart => exact ⟨0, rfl, rfl, Nat.zero_le _, Lib.hid (fun k' h => by omega), HX, HB⟩
      case round =>
        clear HX HB
        obtain ⟨a, rfl, rfl, hab, HNA, HX, HB⟩ := hrel
        by_cases hat : a < b
        · have hatz : (a : Int) < (b : Int) := by omega
          have hal : a + L ≤ 8 := by omega
          have ha8 : a < 8 := by omega
          have HO := Lib.hid (fun W => only_any x H8.out a L hal ha8 W)
          have HE : ∀ W, (Op.equalIn 10000 23 (.agg (cu (kept x a L)).toArray) (.agg #[.int .u16 0, .int .u16 0, .int .u16 0, .int .u16 0, .int .u16 0, .int .u16 0, .int .u16 0, .int .u16 0])).run Tryd.prog W = .ok (decide (kept x a L = z8)) W := fun W => equal8 (kept x a L) z8 (kept_len H8.out hal) rfl W
          have hkz := kept_zero (n := L) H8.out hal
          have HKZ := Lib.hid hkz
          have hx := HX.out
          by_cases hz : kept x a L = z8
          · rw [decide_eq_true hz] at HE
            have HZ := Lib.hid (hkz.1 hz)
            have hx2 := HX
            obtain ⟨K, hK⟩ : ∃ K, kept x a L = K := ⟨_, rfl⟩
            rw [hK] at HO HE
            clear hz hkz HKZ hK
            go_wp2_with (first | (refine load8 _ rfl _ rfl x hx H8.out rfl ?_) | (go_at_call 31; refine (HO.out _).mono ?_; rintro e w2 ⟨rfl, hB2⟩) | fail)
            go_ret2
            obtain ⟨rfl, rfl⟩ := (run_found hlt hal HNL.out HNA.out HZ.out).same HR.out
            exact ⟨rfl, upB HB.out hB2⟩
          · rw [decide_eq_false hz] at HE
            have HZ := Lib.hid (fun e => hz (hkz.2 e))
            obtain ⟨K, hK⟩ : ∃ K, kept x a L = K := ⟨_, rfl⟩
            rw [hK] at HO HE
            clear hz hkz HKZ hK
            go_wp2_with (first | (refine load8 _ rfl _ rfl x hx H8.out rfl ?_) | (go_at_call 31; refine (HO.out _).mono ?_; rintro e w2 ⟨rfl, hB2⟩) | fail)
            go_roundg (b - (a + 1))
            case measure => omega
            case rel => exact ⟨a + 1, by go_num, rfl, by omega, Lib.hid (fun k' h => by
              by_cases e : k' = a
              · subst e; exact HZ.out
              · exact HNA.out k' (by omega)), Lib.hid (HX.out.go hB2), Lib.hid (upB HB.out hB2)⟩
        · obtain rfl : a = b := by omega
          have hatz : ¬ (a : Int) < (a : Int) := by omega
          go_wp2_with fail
          go_roundg (L - 1)
          case measure => omega
          case rel => exact ⟨L - 1, by go_num, rfl, by omega, by omega, Lib.hid (NL_next HNL.out HNA.out hbL), HX, HB⟩
    · obtain rfl : L = 1 := by omega
      go_wp2_with fail
      go_ret2
      obtain ⟨rfl, rfl⟩ := (run_none HNL.out).same HR.out
      exact ⟨rfl, HB.out⟩

theorem sl_sum (B k n : Nat) (hk : k + n ≤ 8) (W : World) : (Instr.sliceAt 23 (.pointer (some ⟨B, 0, none⟩)) (some (.int .i64 ((k : Int) + (n : Int)))) none none).run Tryd.prog W = .ok (.slice (some ⟨B, off (k + n), none⟩) (8 - (k + n)) (8 - (k + n))) W := by
  have := sl_l B (k + n) hk W
  rw [show ((k + n : Nat) : Int) = (k : Int) + (n : Int) by simp] at this
  exact this
theorem Hx.dropo {w : World} {B : Nat} {x : List Nat} (h : Hx w B x) (h8 : x.length = 8) (k : Nat) (hk : k ≤ 8) : Row w w.heap.size (some ⟨B, off k, none⟩) (cu (x.drop k)) := by
  by_cases e : k = 8
  · subst e
    rw [List.drop_of_length_le (by omega)]
    exact .empty
  · rw [off_lt (by omega)]
    exact h.drop k
theorem mem_take {x : List Nat} (h : ∀ m ∈ x, m < 65536) (k : Nat) : ∀ m ∈ x.take k, m < 65536 := fun m hm => h m (List.mem_of_mem_take hm)
theorem mem_drop {x : List Nat} (h : ∀ m ∈ x, m < 65536) (k : Nat) : ∀ m ∈ x.drop k, m < 65536 := fun m hm => h m (List.mem_of_mem_drop hm)
theorem hx_jn_len {x : List Nat} (h : ∀ m ∈ x, m < 65536) (h8 : x.length ≤ 8) : (jn (hx x)).length ≤ 40 := by
  have := jn_len (hx x) (hx_len h)
  rw [hx, List.length_map] at this
  unfold hx
  omega
theorem jn_size {x : List Nat} (h : ∀ m ∈ x, m < 65536) (h8 : x.length ≤ 8) : (bs (jn (hx x))).size ≤ 40 := by rw [bs_size]; exact hx_jn_len h h8
set_option maxRecDepth 100000 in
set_option maxHeartbeats 1000000 in
theorem Show_any (x : List Nat) (h8 : x.length = 8) (h16 : ∀ m ∈ x, m < 65536) (k n : Nat) (hr : IsRun x k n) (w : World) (hE : Env w) : Calls Tryd.prog 13 #[av x] w (Texts (shw x k n) w) := by
  have H8 := Lib.hid h8
  have HR := Lib.hid (fun W => Run_any x h8 k n hr W)
  have hx0 := Hx.new w x
  have hB0 := upA w (.cells (cu x).toArray 23)
  have hE1 := hE.go hB0
  have hkn : k + n ≤ 8 := by rcases hr with ⟨h1, h2, _⟩ | ⟨_, h2, _⟩ <;> omega
  obtain ⟨w1, hw1⟩ : ∃ w1, w.alloc (.cells (cu x).toArray 23) = w1 := ⟨_, rfl⟩
  rw [hw1] at hx0 hB0 hE1
  have HX := Lib.hid hx0
  have HB0 := Lib.hid hB0
  by_cases hn : n = 0
  · have HJ := Lib.hid (fun W (hB : Below w1.heap.size w1 W) => join_any x (some ⟨w.heap.size, 0, none⟩) 8 8 W h8 (Nat.le_refl _) h16 (by have := (hx0.go hB).drop 0; rwa [List.drop_zero] at this) (hE1.go hB))
    have hs : shw x k n = jn (hx x) := if_pos hn
    rw [hs]
    have hsl := fun W => sl_all w.heap.size W
    have hnz : ((n : Int) == 0) = true := by rw [hn]; rfl
    clear hr hkn h8 h16 hE hB0 hE1 hs hn
    go_enter Tryd.func13, Tryd.ntmps13
    go_upto_region 1 with fail
    clear hw1
    go_wp2_with (first | (refine load8 _ rfl _ rfl x hx0 H8.out rfl ?_) | (go_at_call 11; refine (HR.out _).mono ?_; rintro e w2 ⟨rfl, hB2⟩) | (go_at_call 32; refine (HJ.out _ hB2).mono ?_; rintro e w3 ⟨rfl, hB3⟩) | fail)
    go_ret
    exact ⟨rfl, upB HB0.out (upB hB2 hB3)⟩
  · have hs : shw x k n = jn (hx (x.take k)) ++ 58 :: 58 :: jn (hx (x.drop (k + n))) := if_neg hn
    rw [hs]
    have HJ1 := Lib.hid (fun W (hB : Below w1.heap.size w1 W) => (join_any (x.take k) (some ⟨w.heap.size, 0, none⟩) k 8 W (by rw [List.length_take, h8]; omega) (by omega) (mem_take h16 k) ((hx0.go hB).take k) (hE1.go hB)).mono fun e w' h => (⟨h.1, upB hB h.2⟩ : Texts (jn (hx (x.take k))) w1 e w'))
    have HJ2 := Lib.hid (fun W (hB : Below w1.heap.size w1 W) => (join_any (x.drop (k + n)) (some ⟨w.heap.size, off (k + n), none⟩) (8 - (k + n)) (8 - (k + n)) W (by rw [List.length_drop, h8]) (by omega) (mem_drop h16 (k + n)) ((hx0.go hB).dropo h8 (k + n) hkn) (hE1.go hB)).mono fun e w' h => (⟨h.1, upB hB h.2⟩ : Texts (jn (hx (x.drop (k + n)))) w1 e w'))
    have hz1 := jn_size (mem_take h16 k) (by rw [List.length_take]; omega)
    have hz2 := jn_size (mem_drop h16 (k + n)) (by rw [List.length_drop]; omega)
    have HA : Hid (∀ a b : List UInt8, bs a ++ ⟨#[58, 58]⟩ ++ bs b = bs (a ++ 58 :: 58 :: b)) := Lib.hid (fun a b => bytes_ext.2 (by
      rw [bs_data]
      show dl _ = _
      rw [app_dl, app_dl]
      simp [dl, bs]))
    generalize jn (hx (x.take k)) = T1 at HJ1 hz1 ⊢
    generalize jn (hx (x.drop (k + n))) = T2 at HJ2 hz2 ⊢
    have hsl1 := fun W => sl_h w.heap.size k (by omega) W
    have hsl2 := fun W => sl_sum w.heap.size k n hkn W
    generalize off (k + n) = o at HJ2 hsl2
    generalize 8 - (k + n) = m at HJ2 hsl2
    have hw : IntKind.i64.wrap ((k : Int) + (n : Int)) = (k : Int) + (n : Int) := IntWalk.i64_in _ (by omega)
    have hnz : ((n : Int) == 0) = false := by rw [beq_eq_false_iff_ne]; omega
    clear hr h8 h16 hE hB0 hE1 hs hn
    go_enter Tryd.func13, Tryd.ntmps13
    go_upto_region 1 with fail
    clear hw1
    go_upto_region 4 with (first | (refine load8 _ rfl _ rfl x hx0 H8.out rfl ?_) | (go_at_call 11; refine (HR.out _).mono ?_; rintro e w2 ⟨rfl, hB2⟩) | fail)
    have hd0 := hB2.drew
    have hc1 : ¬ (9223372036854775807 < (bs T1).size + 2) := by omega
    have hc2 : ¬ (9223372036854775807 < (bs T1).size + 2 + (bs T2).size) := by omega
    go_region_law (first
      | (go_simp; go_at_call 32; with_reducible refine (HJ1.out _ (by assumption)).mono ?_; rintro e' wA ⟨rfl, hbA⟩)
      | (go_simp; go_at_call 32; with_reducible refine (HJ2.out _ (by assumption)).mono ?_; rintro e' wB ⟨rfl, hbB⟩)
      | fail)
    all_goals
      go_wp2_with fail
      go_ret
      rw [Texts, ← HA.out]
      first | exact ⟨rfl, upB HB0.out hbB⟩ | exact ⟨rfl, upB HB0.out hbA⟩
end Go.Proofs.YtcoppicieicikaaDoor.Sx
