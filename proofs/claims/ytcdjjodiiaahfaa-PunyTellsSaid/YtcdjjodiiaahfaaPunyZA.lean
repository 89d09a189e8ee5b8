/-
  The document's own answer of layer 4: Encode.
-/
import Derived.Test.YtcdjjodiiaahfaaPunyZ
namespace Go.Proofs.Ytcdjjodiiaahfaa
open Go.RowKit Go.Shelf Puny

def REnc (r : List UInt8) (k : Int) (w : World) (e : Ending) (w' : World) : Prop := e = .returned (.tuple #[.string (bs r), .int .i64 k]) ∧ Below w.heap.size w w'

theorem all_cut {l : List Int} (h : l.all isSca = false) : ∃ b, ∃ hb : b < l.length, isSca l[b] = false ∧ ∀ i (hi : i < b), isSca (l[i]'(by omega)) = true := by
  induction l with
  | nil => cases h
  | cons x l ih =>
    cases hx : isSca x with
    | false => exact ⟨0, by simp, hx, fun i hi => by omega⟩
    | true =>
      rw [List.all_cons, hx, Bool.true_and] at h
      obtain ⟨b, hb, h1, h2⟩ := ih h
      refine ⟨b + 1, by simp; omega, by simpa using h1, fun i hi => ?_⟩
      cases i with
      | zero => simpa using hx
      | succ i => simpa using h2 i (by omega)

set_option maxRecDepth 100000 in
set_option maxHeartbeats 2000000 in
theorem rEncode_wrong (l : List Int) (A : Option Addr) (n c : Nat) (w : World) (hn : l.length = n) (hn1 : n ≤ 1000) (hs : l.all isSca = false) (hr : Row w w.heap.size A (cl .i32 l)) :
    Calls Try.prog 10 #[.slice A n c] w (REnc [] 40 w) := by
  obtain ⟨b, hb, hb1, hb2⟩ := all_cut hs
  have HN := Lib.hid hn
  have HB2 := Lib.hid hb2
  have HB1 := Lib.hid hb1
  have hbn : b < n := by rw [← hn]; exact hb
  clear hn hb2 hb1 hs
  go_enter Try.func10, Try.ntmps10
  go_wp2
  go_loopg [4, 5, 6] b (fun g s4 s5 s6 wr => ∃ (i h : Nat) (L : List UInt8), s6 = .int .i64 (i : Int) ∧ s5 = .int .i64 (h : Int) ∧ s4 = .string (bs L) ∧ i + g = b ∧ h ≤ i ∧ L.length ≤ i ∧ Below w.heap.size w wr)
  case atStart => exact ⟨0, 0, [], rfl, rfl, rfl, by omega, by omega, by simp, Below.refl _ _⟩
  case round =>
    obtain ⟨i, h, L, rfl, rfl, rfl, hig, hhi, hLi, hBw⟩ := hrel
    have hin : i < l.length := by omega
    have hizn : (i : Int) < (n : Int) := by omega
    obtain ⟨bb, off, rfl, hbb, hc⟩ := (hr.below hBw).at_ (by simp; omega)
    have hcell := hc i (by simp; omega)
    rw [cl_get _ _ _ hin] at hcell
    have hsz : (bs L).size ≤ 1000 := by rw [bs_size]; omega
    have HC := Lib.hid hc
    clear hc
    rcases gk with _ | g
    · obtain rfl : i = b := by omega
      have hx1 := HB1.out
      obtain ⟨r, hx⟩ : ∃ r, l[i] = r := ⟨_, rfl⟩
      rw [hx] at hcell hx1
      have hcall := rScalar_any r wr
      rw [hx1] at hcall
      have HCA := Lib.hid hcall
      clear hcall hx hx1
      go_wp2_with (first | (go_at_call 25; refine HCA.out.mono ?_; rintro e w' ⟨rfl, rfl⟩) | fail)
      go_ret2
      exact ⟨rfl, hBw⟩
    · have hx1 := HB2.out i (by omega)
      obtain ⟨r, hx⟩ : ∃ r, l[i] = r := ⟨_, rfl⟩
      rw [hx] at hcell hx1
      have hcall := rScalar_any r wr
      rw [hx1] at hcall
      have HCA := Lib.hid hcall
      have hrb := isSca_nonneg hx1
      clear hcall hx hx1
      by_cases h128 : r < 128
      · have hcv := conv_byte r wr
        have hs1 := strOf1_size r
        have wu : IntKind.u8.wrap r = r := by simp [IntKind.wrap, IntKind.bits, IntKind.signed]; omega
        have HSB : Hid (strOfNums [r] = bs [UInt8.ofNat r.toNat]) := Lib.hid (bs_eq (byte_data r))
        go_wp2_with (first | (go_at_call 25; refine HCA.out.mono ?_; rintro e w' ⟨rfl, rfl⟩) | fail)
        go_roundg g
        case measure => omega
        case rel => exact ⟨i + 1, h + 1, L ++ [UInt8.ofNat r.toNat], by go_num, by go_num, by rw [HSB.out, bs_app], by omega, by omega, by rw [List.length_append, List.length_singleton]; omega, hBw.alloc hBw.size _⟩
      · have hz : 128 ≤ r := by omega
        go_wp2_with (first | (go_at_call 25; refine HCA.out.mono ?_; rintro e w' ⟨rfl, rfl⟩) | fail)
        go_roundg g
        case measure => omega
        case rel => exact ⟨i + 1, h, L, by go_num, rfl, rfl, by omega, by omega, by omega, hBw⟩

/-- the loop's own state behind j steps -/
def EncS (L : List Nat) (w : World) (j : Nat) (s4 s5 s7 s8 s9 s10 s11 s12 s13 : Value) (wr : World) : Prop :=
  ∃ (o : Option (Nat × Nat)) (n i lead : Nat) (T : List UInt8), s4 = .string (bs T) ∧ s5 = .int .i64 ((hB L + j : Nat) : Int) ∧ s7 = .int .i32 (n : Int) ∧ s8 = .int .i64 (i : Int) ∧ s9 = .int .i64 (lead : Int) ∧ s10 = .bool (decide (j = 0)) ∧
    s11 = .int .i32 (bestV o).1 ∧ s12 = .int .i64 (bestV o).2 ∧ s13 = .bool o.isSome ∧ Hid (nI L j = (n, i)) ∧ Hid ((bT L j).1 = lead) ∧ Hid (tT L j = T) ∧ Hid (Nxt L j o) ∧ Below w.heap.size w wr
end Go.Proofs.Ytcdjjodiiaahfaa
