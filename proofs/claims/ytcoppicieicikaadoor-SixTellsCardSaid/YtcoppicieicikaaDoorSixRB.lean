/-
  fasciaref13: Run.
-/
import Derived.Test.YtcoppicieicikaaDoorSixD
import Derived.Test.YtcoppicieicikaaDoorSixI
namespace Go.Proofs.YtcoppicieicikaaDoor.Sx
open Go.RowKit Go.Shelf

/-- the flag tells whether the row is of noughts -/
def QZ (q : Bool) (x : List Nat) (a m : Nat) : Prop := q = true ↔ zr x a m
set_option maxRecDepth 100000 in
set_option maxHeartbeats 2000000 in
theorem refRun_any (x : List Nat) (h8 : x.length = 8) (k n : Nat) (hr : IsRun x k n) (w : World) : Calls Tryd.prog 12 #[av x] w (Tells (.tuple #[.int .i64 (k : Int), .int .i64 (n : Int)]) w) := by
  have H8 := Lib.hid h8
  have HR := Lib.hid hr
  have h0 := Lib.hid (Hx.new w x)
  have hB0 := Lib.hid (upA w (.cells (cu x).toArray 23))
  clear h8 hr
  go_enter Tryd.func12, Tryd.ntmps12
  go_upto_region 1 with fail
  generalize w.alloc (.cells (cu x).toArray 23) = w1 at h0 hB0 ⊢
  go_wp2_with fail
  go_loopg [4] 8 (fun m s4 wr => ∃ L : Nat, s4 = .int .i64 (L : Int) ∧ L = m ∧ 1 ≤ L ∧ L ≤ 8 ∧ Hid (NL x L) ∧ Hid (Hx wr w.heap.size x) ∧ Hid (Below w.heap.size w wr))
  case atStart => exact ⟨8, rfl, rfl, by decide, Nat.le_refl _, Lib.hid (fun k' n' g1 g2 g3 => by omega), h0, hB0⟩
  case round =>
    clear h0 hB0
    obtain ⟨L, rfl, rfl, hL1, hL8, HNL, HX, HB⟩ := hrel
    by_cases hlt : 1 < L
    · have hL2 : (2 : Int) ≤ (L : Int) := by omega
      obtain ⟨b, hbL⟩ : ∃ b : Nat, b + L = 9 := ⟨9 - L, by omega⟩
      go_wp2_with fail
      go_loopg [5] b (fun m s5 wx => ∃ a : Nat, s5 = .int .i64 (a : Int) ∧ b - a = m ∧ a ≤ b ∧ Hid (NA x L a) ∧ Hid (Hx wx w.heap.size x) ∧ Hid (Below w.heap.size w wx))
      case atStart => exact ⟨0, rfl, rfl, Nat.zero_le _, Lib.hid (fun k' h => by omega), HX, HB⟩
      case round =>
        clear HX HB
        obtain ⟨a, rfl, rfl, hab, HNA, HX, HB⟩ := hrel
        by_cases hat : a < b
        · have hal : a + L ≤ 8 := by omega
          have hali : (a : Int) + (L : Int) ≤ 8 := by omega
          have ha8 : a < 8 := by omega
          go_upto_region 9 with fail
          go_loopg [6, 7] L (fun m s6 s7 wy => ∃ (i : Nat) (q : Bool), s7 = .int .i64 (i : Int) ∧ s6 = .bool q ∧ a + L - i = m ∧ a ≤ i ∧ i ≤ a + L ∧ Hid (QZ q x a (i - a)) ∧ Hid (Hx wy w.heap.size x) ∧ Hid (Below w.heap.size w wy))
          case atStart => exact ⟨a, true, rfl, rfl, by omega, Nat.le_refl _, by omega, Lib.hid (show QZ true x a (a - a) from ⟨fun _ j h1 h2 => by omega, fun _ => rfl⟩), HX, HB⟩
          case round =>
            clear HX HB
            obtain ⟨i, q, rfl, rfl, rfl, hai, hia, HQ, HX, HB⟩ := hrel
            by_cases hii : i < a + L
            · have hiz : (i : Int) < (a : Int) + (L : Int) := by omega
              have hi8 : (0 : Int) ≤ (i : Int) ∧ (i : Int) < 8 := by omega
              have hit : (i : Int).toNat = i := by omega
              have hc := HX.out.cell (k := i) (by rw [H8.out]; omega)
              have HV : Hid (∀ q', (q' = true ↔ (zr x a (i - a) ∧ nth x i = 0)) → QZ q' x a (i + 1 - a)) := Lib.hid (fun q' h => h.trans ⟨fun ⟨e1, e2⟩ j h1 h2 => by
                by_cases e : j = i
                · subst e; exact e2
                · exact e1 j h1 (by omega), fun e => ⟨fun j h1 h2 => e j h1 (by omega), e i hai (by omega)⟩⟩)
              obtain ⟨v, hv⟩ : ∃ v, nth x i = v := ⟨_, rfl⟩
              rw [hv] at hc HV
              clear hv
              cases q
              · have HV2 : Hid (QZ false x a (i + 1 - a)) := Lib.hid (HV.out false (Iff.intro (fun e => Bool.noConfusion e) (fun e => HQ.out.2 e.1)))
                clear HV
                go_wp2_with fail
                go_roundg (a + L - (i + 1))
                case measure => omega
                case rel => exact ⟨i + 1, false, by go_num, rfl, rfl, by omega, by omega, HV2, HX, HB⟩
              · by_cases hv0 : v = 0
                · have HV2 := Lib.hid (HV.out true ⟨fun e => ⟨HQ.out.1 rfl, hv0⟩, fun _ => rfl⟩)
                  subst hv0
                  clear HV
                  go_wp2_with fail
                  go_roundg (a + L - (i + 1))
                  case measure => omega
                  case rel => exact ⟨i + 1, true, by go_num, rfl, rfl, by omega, by omega, HV2, HX, HB⟩
                · have HV2 := Lib.hid (HV.out false ⟨fun e => (by cases e), fun e => absurd e.2 hv0⟩)
                  have hvb : ((v : Int) == 0) = false := by rw [beq_eq_false_iff_ne]; omega
                  clear HV
                  go_wp2_with fail
                  go_roundg (a + L - (i + 1))
                  case measure => omega
                  case rel => exact ⟨i + 1, false, by go_num, rfl, rfl, by omega, by omega, HV2, HX, HB⟩
            · obtain rfl : i = a + L := by omega
              have hiz : ¬ ((a + L : Nat) : Int) < (a : Int) + (L : Int) := by omega
              have hQ : QZ q x a L := by have := HQ.out; rwa [show a + L - a = L by omega] at this
              have HQ2 := Lib.hid hQ
              clear hQ HQ
              cases q
              · go_wp2_with fail
                go_roundg (b - (a + 1))
                case measure => omega
                case rel => exact ⟨a + 1, by go_num, rfl, by omega, Lib.hid (fun k' h => by
                  by_cases e : k' = a
                  · subst e; exact fun z => by have := HQ2.out.2 z; cases this
                  · exact HNA.out k' (by omega)), HX, HB⟩
              · have HZ := Lib.hid (HQ2.out.1 rfl)
                go_wp2_with fail
                go_ret2
                obtain ⟨rfl, rfl⟩ := (run_found hlt hal HNL.out HNA.out HZ.out).same HR.out
                exact ⟨rfl, HB.out⟩
        · obtain rfl : a = b := by omega
          have hali : ¬ (a : Int) + (L : Int) ≤ 8 := by omega
          go_wp2_with fail
          go_roundg (L - 1)
          case measure => omega
          case rel => exact ⟨L - 1, by go_num, rfl, by omega, by omega, Lib.hid (NL_next HNL.out HNA.out hbL), HX, HB⟩
    · obtain rfl : L = 1 := by omega
      go_wp2_with fail
      go_ret2
      obtain ⟨rfl, rfl⟩ := (run_none HNL.out).same HR.out
      exact ⟨rfl, HB.out⟩
end Go.Proofs.YtcoppicieicikaaDoor.Sx
