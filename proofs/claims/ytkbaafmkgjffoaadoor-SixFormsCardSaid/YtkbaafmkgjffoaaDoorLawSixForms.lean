/-
  SixForms: however many noughts stand ahead, the last two numbers as numbers with dots or not, a run of noughts left out or not, it is read as the same address: the law returns true.
  Conditions: those of the card (the variables that the row lists are laid as the program's text lays them).
-/
import Derived.Test.YtkbaafmkgjffoaaDoorSixO
import Derived.Test.YtkbaafmkgjffoaaDoorFrame
import Derived.Deep.RegionHeld3
import Derived.Deep.CutRange
import Derived.Laws.BitsAllLaws
import Derived.Test.YtkbaafmkgjffoaaDoorTie
import Derived.Test.YtkbaafmkgjffoaaDoorCards
import Derived.Test.YtkbaafmkgjffoaaDoorSixZ
import Derived.ProofKit
import Derived.Lay
import Derived.Stop.Joined
import Derived.SevenTiedAt
namespace Go.Proofs.YtkbaafmkgjffoaaDoor.sixForms
open Go.ChangeShapes Go.WideShapes Go.ChangeAt Go.RowKit Sx
open Go.ChangeMaps (open_string shut_string)

set_option maxRecDepth 100000 in
set_option maxHeartbeats 8000000 in
theorem walk (x : List Nat) (A : Option Addr) (n cap : Nat) (zi : List Int) (a1 a2 : Int) (inner : Bool) (w : World) (hx8 : x.length = 8) (hx16 : ∀ m ∈ x, m < 65536) (hin : InRow .u8 w A n cap zi) (g1 : 0 ≤ a1) (_g1' : a1 ≤ 255) (g2 : 0 ≤ a2) (_g2' : a2 ≤ 255) (hE : Env w) :
    Calls Tryd.prog 5 #[av x, .slice A n cap, .int .u8 a1, .int .u8 a2, .bool inner] w (fun e w' => e = .returned (.bool true) ∧ Below w.heap.size w w') := by
  obtain ⟨hzl, hzc, hzm, hzr, hzw⟩ := hin
  obtain ⟨zs, hz1, hz2, hz3⟩ := nat_row (zs := zi) (fun z hz => by simpa [Lit.wf, IntKind.min, IntKind.max, IntKind.signed, IntKind.bits] using hzw z hz)
  have hzr' : Row w w.heap.size A (cb zs) := by rw [← hz3]; exact hzr
  have H8 := Lib.hid hx8
  have H16 := Lib.hid hx16
  have hxa := Hx.new w x
  have hB0 := upA w (.cells (cu x).toArray 23)
  obtain ⟨w1, hw1⟩ : ∃ w1, w.alloc (.cells (cu x).toArray 23) = w1 := ⟨_, rfl⟩
  rw [hw1] at hxa hB0
  have HE := Lib.hid (fun W (hB : Below w1.heap.size w1 W) => (hE.go hB0).go hB)
  have HB0 := Lib.hid hB0
  have HXA := Lib.hid hxa
  have HAW := Lib.hid (fun W h => awake_any W h)
  have HFU := Lib.hid (full_row x zs hx8 hx16 hz1 A n cap w1 (by rw [hz2, hzl]) (by unfold maxLen at hzm; omega) ((hzr'.below hB0).mono hB0.size) (HE.out _ (Below.refl _ _)))
  have HLay := Lib.hid (tld_fl zs hx8 hx16)
  have HFL := Lib.hid (fl_len x zs 8)
  have HF15 : Hid (∀ p ∈ fl x zs 8, p.length ≤ 15) := Lib.hid (fl_le zs hx8 hx16)
  obtain ⟨F, hF⟩ : ∃ F, fl x zs 8 = F := ⟨_, rfl⟩
  rw [hF] at HFU HLay HFL HF15
  obtain ⟨a, ha⟩ : ∃ a : Nat, a1 % 8 = (a : Int) := ⟨(a1 % 8).toNat, by omega⟩
  have ha' : a1.tmod 8 = (a : Int) := by rw [Int.tmod_eq_emod_of_nonneg g1]; exact ha
  have ha7 : a ≤ 7 := by omega
  obtain ⟨q, hq⟩ : ∃ q : Nat, a2 % (8 - (a : Int)) = (q : Int) := ⟨(a2 % (8 - (a : Int))).toNat, by have := Int.emod_nonneg a2 (b := 8 - (a : Int)) (by omega); omega⟩
  have hq' : a2.tmod (8 - (a : Int)) = (q : Int) := by rw [Int.tmod_eq_emod_of_nonneg g2]; exact hq
  have hq7 : (q : Int) < 8 - (a : Int) := by rw [← hq]; exact Int.emod_lt_of_pos _ (by omega)
  obtain ⟨m, hm⟩ : ∃ m : Nat, 1 + (q : Int) = (m : Int) := ⟨1 + q, by omega⟩
  have hm1 : 1 ≤ m := by omega
  have ham : a + m ≤ 8 := by omega
  have hr0 : ¬ (8 : Int) - (a : Int) = 0 := by omega
  have hr1 : (0 : Int) ≤ 8 - (a : Int) ∧ (8 : Int) - (a : Int) ≤ 8 := by omega
  clear hq7 hzl hzc hzm hzr hzw hz1 hz2 hz3 hzr' hF hB0 hE hx8 hx16
  go_enter Tryd.func5, Tryd.ntmps5
  go_upto_region 1 with fail
  clear hw1
  go_upto_region 2 with (first | (refine load8 _ rfl _ rfl x hxa H8.out rfl ?_) | (go_at_call 17; refine HFU.out.mono ?_; rintro e w2 ⟨b, o, c', rfl, HC8, HT, hB2⟩) | fail)
  have HB2 := Lib.hid hB2
  clear hB2 hxa HFU
  go_upto_region 4 with fail
  have HAM : Hid (1 ≤ m ∧ a + m ≤ 8) := Lib.hid ⟨hm1, ham⟩
  clear ha ha' hq hq' hm hr0 hr1 g1 g2
  go_upto_if 28 with fail
  go_cut [11, 12, 13, 14] from 28 to 78 (fun s11 s12 s13 s14 wr => ∃ (B O N C a m lim : Nat) (L : List (List UInt8)), s11 = .slice (some ⟨B, O, none⟩) N C ∧ s12 = .int .i64 (a : Int) ∧ s13 = .int .i64 (m : Int) ∧ Hid (L.length = N ∧ N ≤ C ∧ N ≤ 8 ∧ lim ≤ N) ∧ Hid (1 ≤ m ∧ a + m ≤ lim) ∧ Hid (∀ p ∈ L, p.length ≤ 15) ∧ Hid (Lay L x lim) ∧ Hid (TRow wr B O L) ∧ Hid (Below w1.heap.size w1 wr))
  case first =>
    cases inner
    · go_wp2_with fail
      go_meet
      exact ⟨b, o, 8, c', a, m, 8, F, rfl, rfl, rfl, Lib.hid ⟨HFL.out, HC8.out, Nat.le_refl _, Nat.le_refl _⟩, HAM, HF15, Lib.hid HLay.out.lay, HT, HB2⟩
    · have hX8 := H8.out
      obtain ⟨x0, x1, x2, x3, x4, x5, x6, x7, rfl⟩ := eight hX8
      clear hX8
      have hx6 : x6 < 65536 := H16.out x6 (by simp)
      have hx7 : x7 < 65536 := H16.out x7 (by simp)
      have HSS : Hid (∀ w', Below w1.heap.size w1 w' → (w'.cell? ⟨w.heap.size, 0, none⟩ = some (.int .u16 (x0 : Int)) ∧ w'.cell? ⟨w.heap.size, 1, none⟩ = some (.int .u16 (x1 : Int)) ∧ w'.cell? ⟨w.heap.size, 2, none⟩ = some (.int .u16 (x2 : Int)) ∧ w'.cell? ⟨w.heap.size, 3, none⟩ = some (.int .u16 (x3 : Int)) ∧ w'.cell? ⟨w.heap.size, 4, none⟩ = some (.int .u16 (x4 : Int)) ∧ w'.cell? ⟨w.heap.size, 5, none⟩ = some (.int .u16 (x5 : Int)) ∧ w'.cell? ⟨w.heap.size, 6, none⟩ = some (.int .u16 (x6 : Int)) ∧ w'.cell? ⟨w.heap.size, 7, none⟩ = some (.int .u16 (x7 : Int)))) := Lib.hid (fun w' hB => (HXA.out.go hB).eight)
      have hB2 : Below w1.heap.size w1 w2 := HB2.out
      have HBw : Hid (Below w2.heap.size w2 w2.drew) := Lib.hid (Below.refl _ _).drew
      have hB2d : Below w1.heap.size w1 w2.drew := hB2.drew
      obtain ⟨p6, hp6⟩ : ∃ p : Nat, (x6 : Int) / 256 = (p : Int) := ⟨x6 / 256, by omega⟩
      obtain ⟨p7, hp7⟩ : ∃ p : Nat, (x7 : Int) / 256 = (p : Int) := ⟨x7 / 256, by omega⟩
      have hi6 : IntKind.i64.wrap (p6 : Int) = (p6 : Int) := IntWalk.i64_in _ (by omega)
      have hi7 : IntKind.i64.wrap (p7 : Int) = (p7 : Int) := IntWalk.i64_in _ (by omega)
      obtain ⟨q6, hq6⟩ : ∃ p : Nat, (x6 : Int) % 256 = (p : Int) := ⟨x6 % 256, by omega⟩
      obtain ⟨q7, hq7⟩ : ∃ p : Nat, (x7 : Int) % 256 = (p : Int) := ⟨x7 % 256, by omega⟩
      have hm6 : bits .and .u16 (x6 : Int) 255 = (q6 : Int) := by rw [← hq6]; exact and255 x6 hx6
      have hm7 : bits .and .u16 (x7 : Int) 255 = (q7 : Int) := by rw [← hq7]; exact and255 x7 hx7
      have hj6 : IntKind.i64.wrap (q6 : Int) = (q6 : Int) := IntWalk.i64_in _ (by omega)
      have hj7 : IntKind.i64.wrap (q7 : Int) = (q7 : Int) := IntWalk.i64_in _ (by omega)
      have he4 := e4_ok (a := p6) (b := q6) (c := p7) (d := q7) (by omega) (by omega) (by omega) (by omega)
      have HE4 := Lib.hid he4
      have HPQ : Hid (p6 * 256 + q6 = x6 ∧ p7 * 256 + q7 = x7) := Lib.hid (by omega)
      have HI6 := Lib.hid (fun W h => Itoa_any p6 (by omega) W h)
      have HI7 := Lib.hid (fun W h => Itoa_any p7 (by omega) W h)
      have HJ6 := Lib.hid (fun W h => Itoa_any q6 (by omega) W h)
      have HJ7 := Lib.hid (fun W h => Itoa_any q7 (by omega) W h)
      unfold Texts at HI6 HI7 HJ6 HJ7
      have HDD : Hid (bs (digs 10 p6) ++ ⟨#[46]⟩ ++ bs (digs 10 q6) ++ ⟨#[46]⟩ ++ bs (digs 10 p7) ++ ⟨#[46]⟩ ++ bs (digs 10 q7) = bs (e4 p6 q6 p7 q7)) := Lib.hid (bytes_ext.2 (by
        rw [bs_data]
        show dl _ = _
        rw [app_dl, app_dl, app_dl, app_dl, app_dl, app_dl]
        simp [dl, bs, e4]))
      have l3 : ∀ n, n < 256 → (bs (digs 10 n)).size ≤ 3 := fun n h => by rw [bs_size]; exact digs_len (b := 10) (by decide) 2 n (by omega)
      have hA3 := l3 p6 (by omega)
      have hB3 := l3 q6 (by omega)
      have hC3 := l3 p7 (by omega)
      have hD3 := l3 q7 (by omega)
      clear l3 he4
      generalize bs (digs 10 p6) = dA at HI6 HDD hA3
      generalize bs (digs 10 q6) = dB at HJ6 HDD hB3
      generalize bs (digs 10 p7) = dC at HI7 HDD hC3
      generalize bs (digs 10 q7) = dD at HJ7 HDD hD3
      have hk1 : ¬ (9223372036854775807 < dA.size + 1) := by omega
      have hk2 : ¬ (9223372036854775807 < dA.size + 1 + dB.size) := by omega
      have hk3 : ¬ (9223372036854775807 < dA.size + 1 + dB.size + 1) := by omega
      have hk4 : ¬ (9223372036854775807 < dA.size + 1 + dB.size + 1 + dC.size) := by omega
      have hk5 : ¬ (9223372036854775807 < dA.size + 1 + dB.size + 1 + dC.size + 1) := by omega
      have hk6 : ¬ (9223372036854775807 < dA.size + 1 + dB.size + 1 + dC.size + 1 + dD.size) := by omega
      go_upto_region 5 with fail
      go_region_held3 (fun w' => w'.cell? ⟨w.heap.size, 0, none⟩ = some (.int .u16 (x0 : Int)) ∧ w'.cell? ⟨w.heap.size, 1, none⟩ = some (.int .u16 (x1 : Int)) ∧ w'.cell? ⟨w.heap.size, 2, none⟩ = some (.int .u16 (x2 : Int)) ∧ w'.cell? ⟨w.heap.size, 3, none⟩ = some (.int .u16 (x3 : Int)) ∧ w'.cell? ⟨w.heap.size, 4, none⟩ = some (.int .u16 (x4 : Int)) ∧ w'.cell? ⟨w.heap.size, 5, none⟩ = some (.int .u16 (x5 : Int)) ∧ w'.cell? ⟨w.heap.size, 6, none⟩ = some (.int .u16 (x6 : Int)) ∧ w'.cell? ⟨w.heap.size, 7, none⟩ = some (.int .u16 (x7 : Int))) (exact HSS.out _ (by first | assumption | exact Below.drew (by assumption))) (first
        | (go_at_call 18; (with_reducible refine (HI6.out _ (HE.out _ (by assumption))).mono ?_); rintro e' wA ⟨rfl, hbA⟩; have hBA := hB2d.trans (hbA.mono hB2d.size))
        | (go_at_call 18; (with_reducible refine (HJ6.out _ (HE.out _ (by assumption))).mono ?_); rintro e' wB ⟨rfl, hbB⟩; have hBB := hBA.trans (hbB.mono hBA.size))
        | (go_at_call 18; (with_reducible refine (HI7.out _ (HE.out _ (by assumption))).mono ?_); rintro e' wC ⟨rfl, hbC⟩; have hBC := hBB.trans (hbC.mono hBB.size))
        | (go_at_call 18; (with_reducible refine (HJ7.out _ (HE.out _ (by assumption))).mono ?_); rintro e' wD ⟨rfl, hbD⟩; have hBD := hBC.trans (hbD.mono hBC.size))
        | fail)
      all_goals
        obtain ⟨sE, hsE⟩ : ∃ s, dA ++ ⟨#[46]⟩ ++ dB ++ ⟨#[46]⟩ ++ dC ++ ⟨#[46]⟩ ++ dD = s := ⟨_, rfl⟩
        rw [hsE] at HDD ⊢
        have HBD := Lib.hid hBD
        have HTD := Lib.hid (((((HT.out.go HBw.out).go hbA).go hbB).go hbC).go hbD)
        clear hsE hk1 hk2 hk3 hk4 hk5 hk6 hA3 hB3 hC3 hD3 HI6 HI7 HJ6 HJ7 hbA hbB hbC hbD hBA hBB hBC hBD hi6 hi7 hj6 hj7 hm6 hm7 hp6 hp7 hq6 hq7 hB2 hB2d
        have HSD : Hid (∀ w', Below wD.heap.size wD w' → (w'.cell? ⟨w.heap.size, 0, none⟩ = some (.int .u16 (x0 : Int)) ∧ w'.cell? ⟨w.heap.size, 1, none⟩ = some (.int .u16 (x1 : Int)) ∧ w'.cell? ⟨w.heap.size, 2, none⟩ = some (.int .u16 (x2 : Int)) ∧ w'.cell? ⟨w.heap.size, 3, none⟩ = some (.int .u16 (x3 : Int)) ∧ w'.cell? ⟨w.heap.size, 4, none⟩ = some (.int .u16 (x4 : Int)) ∧ w'.cell? ⟨w.heap.size, 5, none⟩ = some (.int .u16 (x5 : Int)) ∧ w'.cell? ⟨w.heap.size, 6, none⟩ = some (.int .u16 (x6 : Int)) ∧ w'.cell? ⟨w.heap.size, 7, none⟩ = some (.int .u16 (x7 : Int)))) := Lib.hid (fun w' hB => HSS.out _ (HBD.out.trans (hB.mono HBD.out.size)))
        have HL6 : Hid (((F.take 6).map bs).length = 6) := Lib.hid (by rw [List.length_map, List.length_take, HFL.out]; rfl)
        have TA : Hid (∀ W, Below wD.heap.size wD W → Row W W.heap.size (some ⟨b, o, none⟩) (sc ((F.take 6).map bs))) := Lib.hid (fun W hB => ((HTD.out.go hB).take 6).row)
        have hsl : ∀ W, (Instr.sliceAt 35 (.slice (some ⟨b, o, none⟩) 8 c') none (some (.int .i64 6)) none).run Tryd.prog W = .ok (.slice (some ⟨b, o, none⟩) 6 c') W := fun W => ts_h b o 6 c' (by decide) HC8.out W
        have HRB : Hid (Row ((wD.alloc (.cells #[] 9)).alloc (.cells #[.string sE] 9)).drew ((wD.alloc (.cells #[] 9)).alloc (.cells #[.string sE] 9)).drew.heap.size (some ⟨wD.heap.size + 1, 0, none⟩) (sc [sE])) := Lib.hid (by
          have h := row_new' (wD.alloc (.cells #[] 9)) #[.string sE] 9 [.string sE] rfl
          have e : (wD.alloc (.cells #[] 9)).heap.size = wD.heap.size + 1 := World.size_alloc _ _
          rw [e] at h
          exact h)
        have HRC : Hid (Row ((wD.alloc (.cells #[.string sE] 9)).alloc (.cells #[] 9)).drew ((wD.alloc (.cells #[.string sE] 9)).alloc (.cells #[] 9)).drew.heap.size (some ⟨wD.heap.size, 0, none⟩) (sc [sE])) := Lib.hid (((row_new' wD #[.string sE] 9 [.string sE] rfl).below (upA _ _).drew).mono (upA _ _).drew.size)
        have HOC : Hid (((wD.alloc (.cells #[.string sE] 9)).alloc (.cells #[] 9)).drew.ownsRow wD.heap.size 9 1 (.slice (some ⟨wD.heap.size + 1, 0, none⟩) 0 0) 0 (sc [])) := Lib.hid (by
          have h := own_drew (own_empty (wD.alloc (.cells #[.string sE] 9)) wD.heap.size 9 (by simp))
          have e : (wD.alloc (.cells #[.string sE] 9)).heap.size = wD.heap.size + 1 := World.size_alloc _ _
          rw [e] at h
          exact h)
        have hE15 := HE4.out.2.2.2
        have H15' : Hid (∀ p ∈ F.take 6 ++ [e4 p6 q6 p7 q7], p.length ≤ 15) := Lib.hid (fun p hp => by
          rcases List.mem_append.1 hp with h | h
          · exact HF15.out p (List.mem_of_mem_take h)
          · obtain rfl := List.mem_singleton.1 h; exact hE15)
        have HLL : Hid ((F.take 6 ++ [e4 p6 q6 p7 q7]).length = 7) := Lib.hid (by have := HL6.out; rw [List.length_map] at this; simp [this])
        have HLy' : Hid (Lay (F.take 6 ++ [e4 p6 q6 p7 q7]) [x0, x1, x2, x3, x4, x5, x6, x7] 6) := Lib.hid (by
          have h := lay_end HE4.out.1 HE4.out.2.1 HE4.out.2.2.1 (HLay.out.take 6)
          have e6 := HL6.out
          rw [List.length_map] at e6
          rw [e6, HPQ.out.1, HPQ.out.2] at h
          exact h)
        have HMB : Hid (∀ (W : World) B0 A3 c3, W.ownsRow B0 9 1 (.slice A3 7 c3) 7 (sc ([] ++ (F.take 6).map bs ++ [sE])) → ∃ B O, A3 = some ⟨B, O, none⟩ ∧ 7 ≤ c3 ∧ TRow W B O (F.take 6 ++ [e4 p6 q6 p7 q7])) := Lib.hid (fun W B0 A3 c3 h => TRow.of_own (by rw [List.map_append, List.map_cons, List.map_nil, ← HDD.out]; exact h) HLL.out (by decide))
        have HJJ : Hid (∀ (W : World) A3 c3, W.ownsRow wD.heap.size 9 1 (.slice A3 7 c3) 7 (sc ([] ++ (F.take 6).map bs ++ [sE])) → Calls Tryd.prog 19 #[.slice A3 7 c3, .string ⟨#[58]⟩] W (Texts (jn (F.take 6 ++ [e4 p6 q6 p7 q7])) W)) := Lib.hid (fun W A3 c3 h => by
          obtain ⟨B, O, rfl, h7, hT⟩ := HMB.out W _ A3 c3 h
          exact hT.join HLL.out (by decide) h7 (by have := jn_len15 _ H15'.out; rw [HLL.out] at this; omega))
        have HY := Lib.hid (fun W h => says_yes (bs (jn (F.take 6 ++ [e4 p6 q6 p7 q7]))) [x0, x1, x2, x3, x4, x5, x6, x7] rfl (by rw [bs_size]; have := jn_len15 _ H15'.out; rw [HLL.out] at this; omega) W h (by rw [show dl (bs (jn (F.take 6 ++ [e4 p6 q6 p7 q7]))) = jn (F.take 6 ++ [e4 p6 q6 p7 q7]) from bs_data _]; exact HLy'.out.whole rfl))
        unfold Texts at HJJ
        generalize bs (jn (F.take 6 ++ [e4 p6 q6 p7 q7])) = sJ at HJJ HY
        have HY' : Hid (∀ W, Env W → Calls Tryd.prog 15 #[.string sJ, (.agg #[.int .u16 (x0 : Int), .int .u16 (x1 : Int), .int .u16 (x2 : Int), .int .u16 (x3 : Int), .int .u16 (x4 : Int), .int .u16 (x5 : Int), .int .u16 (x6 : Int), .int .u16 (x7 : Int)])] W (Says true W)) := HY
        clear HY hE15
        go_upto_region 6 with fail
        go_region_held3 (fun w' => w'.cell? ⟨w.heap.size, 0, none⟩ = some (.int .u16 (x0 : Int)) ∧ w'.cell? ⟨w.heap.size, 1, none⟩ = some (.int .u16 (x1 : Int)) ∧ w'.cell? ⟨w.heap.size, 2, none⟩ = some (.int .u16 (x2 : Int)) ∧ w'.cell? ⟨w.heap.size, 3, none⟩ = some (.int .u16 (x3 : Int)) ∧ w'.cell? ⟨w.heap.size, 4, none⟩ = some (.int .u16 (x4 : Int)) ∧ w'.cell? ⟨w.heap.size, 5, none⟩ = some (.int .u16 (x5 : Int)) ∧ w'.cell? ⟨w.heap.size, 6, none⟩ = some (.int .u16 (x6 : Int)) ∧ w'.cell? ⟨w.heap.size, 7, none⟩ = some (.int .u16 (x7 : Int))) (exact HSD.out _ (by first | assumption | exact (upA wD _).drew | exact ((upA wD _).alloc (by simp) _).drew | exact (upA wD _).drew.alloc (by simp) _ | exact hb2.alloc hb2.size _ | exact (Below.refl _ _).drew | exact upA wD _ | exact (upA wD _).alloc (by simp) _)) (first
          | (refine step_appT wD _ rfl (.tmp 55) (.tmp 57) rfl _ 0 [] rfl ?_ ?_ (some ⟨b, o, none⟩) 6 c' ((F.take 6).map bs) rfl HL6.out ?_ 6 (by omega) (by omega) ?_;
              (first | exact own_drew (own_empty wD wD.heap.size 9 (Nat.le_refl _)) | exact own_drew ((own_empty wD wD.heap.size 9 (Nat.le_refl _)).alloc (.cells #[.string sE] 9)) | exact HOC.out);
              (first | exact (upA wD _).drew | exact ((upA wD _).alloc (by simp) _).drew | exact (upA wD _).drew.alloc (by simp) _);
              (first | exact TA.out _ (upA wD _).drew | exact TA.out _ ((upA wD _).alloc (by simp) _).drew | exact TA.out _ ((upA wD _).drew.alloc (by simp) _)); intro A2 c2 w2 hown2 hg2 hb2)
          | (refine step_appT wD _ rfl (.tmp 58) (.tmp 60) rfl _ 6 ([] ++ (F.take 6).map bs) rfl ?_ ?_ _ 1 1 [sE] rfl rfl ?_ 7 rfl (by omega) ?_;
              (first | exact hown2 | exact hown2.alloc _); (first | exact hb2 | exact hb2.alloc hb2.size _);
              (first | exact row_new' _ _ _ _ rfl | exact row_far (b := wD.heap.size) hg2 HRB.out (by omega) | exact row_far (b := wD.heap.size + 1) hg2 HRC.out (by omega)); intro A3 c3 w3 hown3 hg3 hb3)
          | (go_at_call 19; refine (HJJ.out _ _ _ hown3).mono ?_; rintro e' w4 ⟨rfl, hb4⟩; have hb4' := hb3.trans (hb4.mono hb3.size))
          | (go_at_call 15; (with_reducible refine (HY'.out _ (HE.out _ (HBD.out.trans (hb4'.mono HBD.out.size)))).mono ?_); rintro e' w5 ⟨rfl, hb5⟩; have hb5' := hb4'.trans (hb5.mono hb4'.size))
          | fail)
        all_goals
          have HB5 := Lib.hid (HBD.out.trans (hb5'.mono HBD.out.size))
          have HTR := Lib.hid (fun W (hB : Below w5.heap.size w5 W) => TA.out W (hb5'.trans (hB.mono hb5'.size)))
          clear hb5 hb5' hb4 hb4' hb3 hb2 hown2 hown3 HJJ HY' HSD HRB HRC HOC
          go_upto_region 9 with (first
            | (at_builtin; refine wpList_appR w5.heap.size _ rfl (.tmp 66) (.tmp 68) rfl _ 0 6 [] ((F.take 6).map bs) rfl (own_empty w5 w5.heap.size 9 (Nat.le_refl _)) (upA w5 _).size (some ⟨b, o, none⟩) 6 c' rfl HL6.out (HTR.out _ (upA w5 _)) rfl (by omega) ?_; intro A6 c6 w6 hO6 hB6)
            | (at_builtin; refine wpList_appS w5.heap.size w6 rfl (.tmp 69) (.tmp 71) rfl _ 6 7 ([] ++ (F.take 6).map bs) sE rfl hO6 (Nat.le_trans (upA w5 _).size hB6.size) rfl rfl (by omega) ?_; intro A7 c7 w7 hO7 hB7)
            | fail)
          obtain ⟨B7, O7, rfl, h77, hT7⟩ := HMB.out _ _ _ _ hO7
          have HT7 := Lib.hid hT7
          have HB7 := Lib.hid (HB5.out.trans ((((upA w5 _).trans hB6).trans hB7).mono HB5.out.size))
          have HQ : Hid ((F.take 6 ++ [e4 p6 q6 p7 q7]).length = 7 ∧ 7 ≤ c7 ∧ 7 ≤ 8 ∧ 6 ≤ 7) := Lib.hid ⟨HLL.out, h77, by decide, by decide⟩
          clear hO6 hB6 hO7 hB7 hT7 h77 HTR TA
          by_cases h5 : 5 < a
          · have hz5 : (5 : Int) < (a : Int) := by omega
            go_wp2_with fail
            go_meet
            exact ⟨B7, O7, 7, c7, 5, 1, 6, F.take 6 ++ [e4 p6 q6 p7 q7], rfl, rfl, rfl, HQ, Lib.hid ⟨by decide, by decide⟩, H15', HLy', HT7, HB7⟩
          · have hz5 : ¬ (5 : Int) < (a : Int) := by omega
            obtain ⟨r6, hr6⟩ : ∃ r : Nat, (6 : Int) - (a : Int) = (r : Int) := ⟨6 - a, by omega⟩
            obtain ⟨m', hm'⟩ : ∃ m' : Nat, min m r6 = m' := ⟨_, rfl⟩
            have hmi : min (m : Int) (r6 : Int) = (m' : Int) := by omega
            have hAM' : Hid (1 ≤ m' ∧ a + m' ≤ 6) := Lib.hid (by omega)
            have hri : IntKind.i64.wrap (r6 : Int) = (r6 : Int) := IntWalk.i64_in _ (by omega)
            clear hm'
            go_wp2_with fail
            go_meet
            exact ⟨B7, O7, 7, c7, a, m', 6, F.take 6 ++ [e4 p6 q6 p7 q7], rfl, rfl, rfl, HQ, hAM', H15', HLy', HT7, HB7⟩
  case rest =>
    clear HT HB2 HC8 HLay HFL HF15 HAM hm1 ham ha7
    obtain ⟨B, O, N, C, a, m, lim, L, rfl, rfl, rfl, HN, HAM, H15, HLy, HT, HB⟩ := hcut
    have hX8 := H8.out
    obtain ⟨x0, x1, x2, x3, x4, x5, x6, x7, rfl⟩ := eight hX8
    clear hX8
    have HX := Lib.hid (HXA.out.go HB.out)
    have HJ := Lib.hid (fun W (hB : Below wc.heap.size wc W) => ((HT.out.go hB).join HN.out.1 (by have := HN.out; omega) HN.out.2.1 (by have := jn_len15 L H15.out; have := HN.out; omega)).mono fun e w' h => (⟨h.1, upB hB h.2⟩ : Texts (jn L) wc e w'))
    have HY := Lib.hid (fun W h => says_yes (bs (jn L)) [x0, x1, x2, x3, x4, x5, x6, x7] rfl (by rw [bs_size]; have := jn_len15 L H15.out; have := HN.out; omega) W h (by rw [show dl (bs (jn L)) = jn L from bs_data _]; exact HLy.out.whole rfl))
    unfold Texts at HJ
    obtain ⟨s1, hs1⟩ : ∃ s, bs (jn L) = s := ⟨_, rfl⟩
    rw [hs1] at HJ HY
    have HY' : Hid (∀ W, Env W → Calls Tryd.prog 15 #[.string s1, (.agg #[.int .u16 (x0 : Int), .int .u16 (x1 : Int), .int .u16 (x2 : Int), .int .u16 (x3 : Int), .int .u16 (x4 : Int), .int .u16 (x5 : Int), .int .u16 (x6 : Int), .int .u16 (x7 : Int)])] W (Says true W)) := HY
    have HSS : Hid (∀ w', Below w1.heap.size w1 w' → (w'.cell? ⟨w.heap.size, 0, none⟩ = some (.int .u16 (x0 : Int)) ∧ w'.cell? ⟨w.heap.size, 1, none⟩ = some (.int .u16 (x1 : Int)) ∧ w'.cell? ⟨w.heap.size, 2, none⟩ = some (.int .u16 (x2 : Int)) ∧ w'.cell? ⟨w.heap.size, 3, none⟩ = some (.int .u16 (x3 : Int)) ∧ w'.cell? ⟨w.heap.size, 4, none⟩ = some (.int .u16 (x4 : Int)) ∧ w'.cell? ⟨w.heap.size, 5, none⟩ = some (.int .u16 (x5 : Int)) ∧ w'.cell? ⟨w.heap.size, 6, none⟩ = some (.int .u16 (x6 : Int)) ∧ w'.cell? ⟨w.heap.size, 7, none⟩ = some (.int .u16 (x7 : Int)))) := Lib.hid (fun w' hB => (HXA.out.go hB).eight)
    clear HY hs1
    have hB1 : Below w1.heap.size w1 wc := HB.out
    have hB2 : Below w1.heap.size w1 wc.drew := hB1.drew
    have hd : Below wc.heap.size wc wc.drew := (Below.refl _ _).drew
    go_upto_region 12 with fail
    go_region_held3 (fun w' => w'.cell? ⟨w.heap.size, 0, none⟩ = some (.int .u16 (x0 : Int)) ∧ w'.cell? ⟨w.heap.size, 1, none⟩ = some (.int .u16 (x1 : Int)) ∧ w'.cell? ⟨w.heap.size, 2, none⟩ = some (.int .u16 (x2 : Int)) ∧ w'.cell? ⟨w.heap.size, 3, none⟩ = some (.int .u16 (x3 : Int)) ∧ w'.cell? ⟨w.heap.size, 4, none⟩ = some (.int .u16 (x4 : Int)) ∧ w'.cell? ⟨w.heap.size, 5, none⟩ = some (.int .u16 (x5 : Int)) ∧ w'.cell? ⟨w.heap.size, 6, none⟩ = some (.int .u16 (x6 : Int)) ∧ w'.cell? ⟨w.heap.size, 7, none⟩ = some (.int .u16 (x7 : Int))) (exact HSS.out _ (by first | assumption | exact Below.drew (by assumption))) (first
      | (go_at_call 19; (with_reducible refine (HJ.out _ (by assumption)).mono ?_); rintro e' w3 ⟨rfl, hb3⟩; have hB3 := hB1.trans (hb3.mono hB1.size))
      | (go_at_call 15; (with_reducible refine (HY'.out _ (HE.out _ (by assumption))).mono ?_); rintro e' w4 ⟨rfl, hb4⟩; have hB4 := hB3.trans (hb4.mono hB3.size))
      | fail)
    all_goals
      have HB4 := Lib.hid hB4
      have HT4 := Lib.hid ((HT.out.go hb3).go hb4)
      have HX4 := Lib.hid (HXA.out.go hB4)
      clear hb3 hb4 hB3 hB4 hB1 hB2 hd HJ HY'
      have hr9 : a + m ≤ 8 ∧ 1 ≤ m := by have := HAM.out; have := HN.out; omega
      obtain ⟨ham, hm1⟩ := hr9
      go_upto_region 15 with fail
      go_loopg [15] m (fun g s15 wr => ∃ i : Nat, s15 = .int .i64 (i : Int) ∧ a + m - i = g ∧ a ≤ i ∧ i ≤ a + m ∧ Hid (zr [x0, x1, x2, x3, x4, x5, x6, x7] a (i - a)) ∧ wr = w4)
      case atStart => exact ⟨a, rfl, by omega, Nat.le_refl _, by omega, Lib.hid (fun j h1 h2 => by omega), rfl⟩
      case round =>
        obtain ⟨i, rfl, rfl, hai, him, HZ, hw0⟩ := hrel
        have hw1 := hw0.symm
        subst hw1
        by_cases hlt : i < a + m
        · have hltz : (i : Int) < (a : Int) + (m : Int) := by omega
          have hii : (0 : Int) ≤ (i : Int) ∧ (i : Int) < 8 := by omega
          have hit : (i : Int).toNat = i := by omega
          have hc := HX4.out.cell (k := i) (by rw [H8.out]; omega)
          have HV : Hid (nth [x0, x1, x2, x3, x4, x5, x6, x7] i = 0 → zr [x0, x1, x2, x3, x4, x5, x6, x7] a (i + 1 - a)) := Lib.hid (fun e j h1 h2 => by
            by_cases h : j = i
            · subst h; exact e
            · exact HZ.out j h1 (by omega))
          obtain ⟨v, hv⟩ : ∃ v, nth [x0, x1, x2, x3, x4, x5, x6, x7] i = v := ⟨_, rfl⟩
          rw [hv] at hc HV
          clear hv
          by_cases hv0 : v = 0
          · subst hv0
            have HV0 := Lib.hid (HV.out rfl)
            clear HV
            go_wp2_with fail
            go_roundg (a + m - (i + 1))
            case measure => omega
            case rel => exact ⟨i + 1, by go_num, rfl, by omega, by omega, HV0, rfl⟩
          · have hvz : ¬ (v : Int) = 0 := by omega
            have hvb : ((v : Int) == 0) = false := by rw [beq_eq_false_iff_ne]; omega
            go_wp2_with (first | (go_at_call 8; refine (HAW.out _ (HE.out _ HB4.out)).mono ?_; rintro e w5 ⟨rfl, hB5⟩) | fail)
            go_ret
            exact ⟨rfl, HB0.out.trans ((HB4.out.trans (hB5.mono HB4.out.size)).mono HB0.out.size)⟩
        · obtain rfl : i = a + m := by omega
          have hzz : zr [x0, x1, x2, x3, x4, x5, x6, x7] a m := by have := HZ.out; rwa [show a + m - a = m by omega] at this
          have hnl : ¬ ((a + m : Nat) : Int) < (a : Int) + (m : Int) := by omega
          have hN := HN.out
          have hprs := HLy.out.short rfl hm1 HAM.out.2 (by omega) hzz
          have hta := HT4.out.take a
          have htb := HT4.out.dropc (a + m) C (by rw [hN.1]; exact hN.2.1)
          have h15a : ∀ p ∈ L.take a, p.length ≤ 15 := fun p hp => H15.out p (List.mem_of_mem_take hp)
          have h15b : ∀ p ∈ L.drop (a + m), p.length ≤ 15 := fun p hp => H15.out p (List.mem_of_mem_drop hp)
          have hla := jn_len15 _ h15a
          have hlb := jn_len15 _ h15b
          have hlA : (L.take a).length = a := by rw [List.length_take, hN.1]; have := HAM.out; omega
          have hlB : (L.drop (a + m)).length = N - (a + m) := by rw [List.length_drop, hN.1]
          rw [hlA] at hla
          rw [hlB] at hlb
          have HJ3 := Lib.hid (fun W (hB : Below w4.heap.size w4 W) => ((hta.go hB).join (n := a) (c := C) hlA (by omega) (by have := HAM.out; omega) (by omega)).mono fun e w' h => (⟨h.1, upB hB h.2⟩ : Texts (jn (L.take a)) w4 e w'))
          have HJ4 := Lib.hid (fun W (hB : Below w4.heap.size w4 W) => ((htb.go hB).join (n := N - (a + m)) (c := C - (a + m)) hlB (by omega) (by omega) (by omega)).mono fun e w' h => (⟨h.1, upB hB h.2⟩ : Texts (jn (L.drop (a + m))) w4 e w'))
          have hsl1 := fun W => ts_hN B O N a C (by have := HAM.out; omega) hN.2.1 W
          have hsl2 := fun W => ts_sumN B O N a m C (by have := HAM.out; omega) W
          have hz1 : (bs (jn (L.take a))).size ≤ 200 := by rw [bs_size]; omega
          have hz2 : (bs (jn (L.drop (a + m)))).size ≤ 200 := by rw [bs_size]; omega
          have hq0 : dl (bs (jn (L.take a)) ++ ⟨#[58, 58]⟩ ++ bs (jn (L.drop (a + m)))) = jn (L.take a) ++ 58 :: 58 :: jn (L.drop (a + m)) := by
            rw [app_dl, app_dl]
            simp [dl, bs]
          rw [← hq0] at hprs
          skip
          clear hta htb h15a h15b hla hlb hlA hlB hq0
          generalize bs (jn (L.take a)) = sA at HJ3 hz1 hprs
          generalize bs (jn (L.drop (a + m))) = sB at HJ4 hz2 hprs
          have HYs := Lib.hid (fun W h => says_yes (sA ++ ⟨#[58, 58]⟩ ++ sB) [x0, x1, x2, x3, x4, x5, x6, x7] rfl (by rw [size_sum3]; omega) W h hprs)
          have HY3 : Hid (∀ W, Env W → Calls Tryd.prog 15 #[.string (sA ++ ⟨#[58, 58]⟩ ++ sB), (.agg #[.int .u16 (x0 : Int), .int .u16 (x1 : Int), .int .u16 (x2 : Int), .int .u16 (x3 : Int), .int .u16 (x4 : Int), .int .u16 (x5 : Int), .int .u16 (x6 : Int), .int .u16 (x7 : Int)])] W (Says true W)) := HYs
          generalize offc O (a + m) C = o2 at HJ4 hsl2
          generalize C - (a + m) = c2 at HJ4 hsl2
          generalize N - (a + m) = m2 at HJ4 hsl2
          have hww : IntKind.i64.wrap ((a : Int) + (m : Int)) = (a : Int) + (m : Int) := IntWalk.i64_in _ (by omega)
          have hc1 : ¬ (9223372036854775807 < sA.size + 2) := by omega
          have hc2 : ¬ (9223372036854775807 < sA.size + 2 + sB.size) := by omega
          clear HYs hprs hN hzz HZ hai him hlt
          go_upto_region 19 with fail
          have hB4 : Below w1.heap.size w1 w4 := HB4.out
          have hB4d : Below w1.heap.size w1 w4.drew := hB4.drew
          have hd0 : Below w4.heap.size w4 w4.drew := (Below.refl _ _).drew
          go_region_held3 (fun w' => w'.cell? ⟨w.heap.size, 0, none⟩ = some (.int .u16 (x0 : Int)) ∧ w'.cell? ⟨w.heap.size, 1, none⟩ = some (.int .u16 (x1 : Int)) ∧ w'.cell? ⟨w.heap.size, 2, none⟩ = some (.int .u16 (x2 : Int)) ∧ w'.cell? ⟨w.heap.size, 3, none⟩ = some (.int .u16 (x3 : Int)) ∧ w'.cell? ⟨w.heap.size, 4, none⟩ = some (.int .u16 (x4 : Int)) ∧ w'.cell? ⟨w.heap.size, 5, none⟩ = some (.int .u16 (x5 : Int)) ∧ w'.cell? ⟨w.heap.size, 6, none⟩ = some (.int .u16 (x6 : Int)) ∧ w'.cell? ⟨w.heap.size, 7, none⟩ = some (.int .u16 (x7 : Int))) (exact HSS.out _ (by first | assumption | exact Below.drew (by assumption))) (first
            | (go_at_call 19; (with_reducible refine (HJ3.out _ (by assumption)).mono ?_); rintro e' wA ⟨rfl, hbA⟩; have hBA := hB4.trans (hbA.mono hB4.size))
            | (go_at_call 19; (with_reducible refine (HJ4.out _ (by assumption)).mono ?_); rintro e' wB ⟨rfl, hbB⟩; have hBB := hB4.trans (hbB.mono hB4.size))
            | (go_at_call 15; (with_reducible refine (HY3.out _ (HE.out _ (by assumption))).mono ?_); rintro e' w7 ⟨rfl, hb7⟩; have hB7 : Below w1.heap.size w1 w7 := (by first | exact hBB.trans (hb7.mono hBB.size) | exact hBA.trans (hb7.mono hBA.size)))
            | (go_at_call 8; (with_reducible refine (HAW.out _ (HE.out _ (by assumption))).mono ?_); rintro e' w8 ⟨rfl, hb8⟩; have hB8 := hB7.trans (hb8.mono hB7.size))
            | fail)
          all_goals
            go_wp2_with fail
            go_ret
            exact ⟨rfl, HB0.out.trans (hB8.mono HB0.out.size)⟩

/-! From the walk to the given statement. -/
set_option linter.unusedVariables false
theorem own : ownKnob Tryd.prog.godebug = none := by kernel_rfl
theorem laidOut : laidOutB Tryd.prog = true := by kernel_rfl
set_option maxRecDepth 100000 in
theorem lifted (os : Os) (started : os.Started) (H : Type) (enc : TypeId × Value → H) :
    ReturnsInHanded {} Tryd.checked os 5 .any (fun w args => (Rows.sixFormsSpec.pre enc Tryd.prog Tryd.f5 [] false w args ∧ laidMetH Tryd.prog Rows.sixFormsRow.laid w) ∧ sizedMet enc Tryd.prog Tryd.f5 (OpenSpec.ofChange Rows.sixFormsSpec) false w args)
      (Rows.sixFormsSpec.post enc Tryd.prog Tryd.f5 false true false false) := by
  refine returnsIn_and_shaped (C := Tryd.checked) (X := fun w _ => laidMetH Tryd.prog Rows.sixFormsRow.laid w) (fun _ _ _ hh h => h.of_heap hh) own started (by kernel_rfl) Tryd.func5
    (ChangeSpec.witness_shaped (enc := enc) (C := Tryd.checked) (os := os) (X := fun w _ => laidMetH Tryd.prog Rows.sixFormsRow.laid w) false (World.laidAll Tryd.prog os Rows.sixFormsRow.laid) #[.agg #[.int .u16 0, .int .u16 0, .int .u16 0, .int .u16 0, .int .u16 0, .int .u16 0, .int .u16 0, .int .u16 0], .slice none 0 0, .int .u8 0, .int .u8 0, .bool false] 8 (World.laidAll_os _ _ _)
      (World.shaped_of_ZipB (by kernel_rfl) (by kernel_rfl)) (by kernel_rfl) (by kernel_rfl) (by kernel_rfl)
      (by rw [MakeChecks.laidMetH_plain _ _ _ (by kernel_rfl)]; exact laidMet_laidAll _ (by kernel_rfl) (by kernel_rfl))) ?_
  intro W base args ds gs before hval0 hW _ _ hL hsh _
  have hval : ∀ (j : Nat) t v, Tryd.f5.params[j]? = some t → args[j]? = some v → Value.okWide Tryd.prog W .any base t v := hval0
  have hW' := hW
  obtain ⟨p, q, hA0, hV, rfl, _, _⟩ := hW
  have hA : DataW.TrodAll enc Tryd.prog W 0 (fun _ => true) true Tryd.f5.params.toList args.toList ds p := hA0
  rw [Tryd.params5] at hA hval
  obtain ⟨v0, vs0, d0, ds0, p0, q0, hargs, rfl, rfl, h0, r0⟩ := trodAll_cons hA
  obtain ⟨v1, vs1, d1, ds1, p1, q1, rfl, rfl, rfl, h1, r1⟩ := trodAll_cons r0
  obtain ⟨v2, vs2, d2, ds2, p2, q2, rfl, rfl, rfl, h2, r2⟩ := trodAll_cons r1
  obtain ⟨v3, vs3, d3, ds3, p3, q3, rfl, rfl, rfl, h3, r3⟩ := trodAll_cons r2
  obtain ⟨v4, vs4, d4, ds4, p4, q4, rfl, rfl, rfl, h4, r4⟩ := trodAll_cons r3
  obtain ⟨rfl, rfl, rfl⟩ := trodAll_nil r4
  obtain rfl : args = #[v0, v1, v2, v3, v4] := by cases args; simp_all
  obtain ⟨rfl, rfl⟩ := trodVars_none hV
  obtain ⟨xs0, rfl, n0⟩ := WideMaps.okWide_arr arr8_key (hval 0 23 v0 rfl rfl)
  have k0 := h0
  obtain ⟨rfl, x0, l0, m0, rfl⟩ := arr8_open n0 h0
  have lt0 : ∀ x ∈ ([] : List MemPlace), x.block < W.heap.size := fun x hx => by cases hx
  obtain ⟨a1, len1, cap1, rfl⟩ := okWide_slice Tryd.underlying34 (hval 1 34 v1 rfl rfl)
  have k1 := h1
  have lt1 : ∀ x ∈ p1, x.block < W.heap.size := by obtain ⟨m, hm⟩ := k1; exact DataW.trod_lt m _ _ _ hm
  obtain ⟨z1, w1⟩ := in_row Tryd.underlying34 Tryd.underlying5 (by kernel_rfl) h1
  obtain ⟨a2, rfl, rfl, rfl, w2⟩ := open_int Tryd.underlying5 (hval 2 5 v2 rfl rfl) h2
  have b2 : 0 ≤ a2 ∧ a2 ≤ 255 := by simpa [Lit.wf, IntKind.min, IntKind.max, IntKind.signed, IntKind.bits] using w2
  obtain ⟨a3, rfl, rfl, rfl, w3⟩ := open_int Tryd.underlying5 (hval 3 5 v3 rfl rfl) h3
  have b3 : 0 ≤ a3 ∧ a3 ≤ 255 := by simpa [Lit.wf, IntKind.min, IntKind.max, IntKind.signed, IntKind.bits] using w3
  obtain ⟨a4, rfl, rfl, rfl⟩ := open_bool Tryd.underlying4 (hval 4 4 v4 rfl rfl) h4
  clear hA0 hval0
  rw [MakeChecks.laidMetH_plain _ _ _ (by kernel_rfl)] at hL
  have hEnv : Env W := env_of hsh (Lib.laidMet.reads hL (.tail _ (.head _))) (Lib.laidMet.reads hL (.tail _ (.tail _ (.head _)))) (Lib.laidMet.reads hL (.tail _ (.tail _ (.tail _ (.tail _ (.head _)))))) (Lib.laidMet.reads hL (.tail _ (.tail _ (.tail _ (.tail _ (.tail _ (.head _)))))))
  refine (walk x0 a1 len1 cap1 z1 a2 a3 a4 W l0 m0 w1 b2.1 b2.2 b3.1 b3.2 hEnv).mono fun e W' ⟨he, bel⟩ => ?_
  subst he
  exact ⟨_, rfl, _, _, _, [], _, [], hW', trodAll_mk1 (shut_bool Tryd.underlying4 _), (trodAll_cons_mk (Below.trod laidOut (by kernel_rfl) (of_decide_eq_true (by kernel_rfl)) k0 bel lt0) (trodAll_cons_mk (Below.trod laidOut (by kernel_rfl) (of_decide_eq_true (by kernel_rfl)) k1 bel lt1) (trodAll_cons_mk (shut_int Tryd.underlying5 w2) (trodAll_cons_mk (shut_int Tryd.underlying5 w3) (trodAll_cons_mk (shut_bool Tryd.underlying4 a4) trodAll_mk0))))), rfl, bel.frame _, fun h => by cases h⟩

theorem row_holds : Rows.SixFormsSaid :=
  OpenClaim.holds_of_wide 5 Tryd.f5 rfl rfl rfl rfl rfl rfl rfl ⟨rfl, rfl, rfl, rfl, rfl⟩ rfl rfl rfl rfl rfl (by kernel_rfl) Tryd.func5 (by kernel_rfl)
    (of_decide_eq_true (by kernel_rfl)) (by unfold Func.isWrapper; first | (rw [if_pos (by decide +kernel)]; kernel_rfl) | (rw [if_neg (by decide +kernel)]; exact ⟨rfl, rfl⟩))
    (fun os started H enc _ => lifted os started H enc)

theorem proved : Rows.SixFormsCardSaid :=
  Claim7.holds_tied_plain_at .later [] [.data, .data, .data, .data, .sentinel, .sentinel, .pinned] true (true, "088f59884a7ce57d9b8a56315fa832e1f9ff9639c70780f69158d45bb9a90f63") true
    row_holds (fun _ h => by cases h) (by kernel_rfl) (fun _ h => by cases h) sixForms_row_tie rfl ⟨rfl, rfl⟩ (by kernel_rfl) rfl
    (fun f fn hf hfn => by
      obtain rfl : f = 5 := Option.some.inj ((show Tryd.prog.funcNamed "fascia/fascialaw13.SixForms" = some 5 by kernel_rfl).symm.trans hf) |>.symm
      obtain rfl : fn = Tryd.f5 := (Option.some.inj (Tryd.func5.symm.trans hfn)).symm
      exact ⟨by kernel_rfl, fun j t ht => by
        rw [Tryd.params5] at ht
        have hm : t ∈ [23, 34, 5, 5, 4] := by simpa using Array.mem_of_getElem? ht
        have hall : ([23, 34, 5, 5, 4].all fun u => !Tryd.prog.wantsStandIn u) = true := by kernel_rfl
        exact (show Tryd.prog.wantsStandIn t = false by simpa using List.all_eq_true.1 hall t hm)⟩)
    (by kernel_rfl)
end Go.Proofs.YtkbaafmkgjffoaaDoor.sixForms
