/-
  The contract of utf.Encode.
-/
import Derived.Test.YtjkfppgekepbeaaDoorUtfA
namespace Go.Proofs.YtjkfppgekepbeaaDoor.Ut
set_option maxRecDepth 100000
open Go.RowKit Utf

/-- bytes in memory of the call's own; what lay before lies as it lay -/
def MadeBytes (bs : List Int) (w : World) (e : Ending) (w' : World) : Prop :=
  ∃ v, e = .returned v ∧ w'.ownsRow w.heap.size 5 1 v bs.length (cl .u8 bs) ∧ Below w.heap.size w w'

def EncRel (l : List Int) (w : World) (o i : Value) (wr : World) : Prop :=
  ∃ k : Nat, k ≤ l.length ∧ i = .int .i64 k ∧ wr.ownsRow w.heap.size 5 1 o (enc (l.take k)).length (cl .u8 (enc (l.take k))) ∧ Below w.heap.size w wr

set_option maxRecDepth 100000 in
set_option maxHeartbeats 1000000 in
theorem Encode_any (l : List Int) (A : Option Addr) (n c : Nat) (w : World) (hn : l.length = n) (hm : n ≤ 100000) (hr : Row w w.heap.size A (cl .i32 l)) :
    Calls Tryd.prog 44 #[.slice A n c] w (MadeBytes (enc l) w) := by
  obtain ⟨i0, hi, hz0, hz1, hz2⟩ := info_parts info_u8
  have hmk : ∀ u : World, (Instr.makeSlice 40 (.int .i64 0) (.int .i64 (n : Int))).run Tryd.prog u =
      .ok (.slice (some ⟨u.heap.size, 0, none⟩) 0 n) (u.alloc (.cells (madeCells #[.int .u8 0] n) 5)) := fun u => by
    have h := run_make (P := Tryd.prog) u 40 5 i0 (.int .u8 0) Tryd.underlying40 hi hz0 .i64 .i64 0 (n : Int) (by omega) (by omega) (by rw [hz2]; omega) (by omega)
    simpa [hz1, Value.cells] using h
  have hsz : (madeCells #[Value.int .u8 0] n).size = n * 1 := by simp [madeCells]
  have hmade := World.ownsRow_made (base := w.heap.size) (e := 5) (size := 1) w (madeCells #[.int .u8 0] n) n (Nat.le_refl _) (by unfold maxLen; omega) hsz
  have HN := Lib.hid hn
  have HMD := Lib.hid hmade
  clear hn hmade hsz
  go_enter Tryd.func44, Tryd.ntmps44
  go_wp2
  clear hmk
  go_loopw [3, 11] (fun o i wr => EncRel l w o i wr) (fun _ i _ => n - (intOf i).toNat)
  case atStart => exact ⟨0, Nat.zero_le _, rfl, by simpa [enc] using HMD.out, (Below.refl _ _).alloc (Nat.le_refl _) _⟩
  case round =>
    obtain ⟨k, hk, rfl, hown, hB⟩ := hrel
    rw [HN.out] at hk
    by_cases hlt : k < n
    · have hkl : k < l.length := by rw [HN.out]; exact hlt
      obtain ⟨b, off, rfl, hb, hc⟩ := (hr.below hB).at_ (by simp; omega)
      have hcell := hc k (by simp; omega)
      rw [cl_get _ _ _ hkl] at hcell
      have hle := enc_take_le l k
      have hsz := hB.size
      have HC := Lib.hid hc
      have HR := Lib.hid hr
      clear hc hr
      go_wp2_with (go_at_call 62; refine (add_any w.heap.size _ _ _ _ _ hown (by omega) (by omega)).mono ?_; rintro e w1 ⟨v', rfl, hown1, hgrow1⟩)
      go_roundw
      case rel => exact ⟨k + 1, by omega, by go_num, by rw [enc_take_succ l k hkl, List.length_append]; simpa using hown1, hB.grown hgrow1 hsz (fun j e => (hown.lt j e).1)⟩
      case measure => simp [intOf]; omega
    · obtain rfl : k = n := by omega
      go_wp2
      go_ret
      refine ⟨_, rfl, ?_, hB⟩
      rw [List.take_of_length_le (by rw [HN.out]; omega)] at hown
      exact hown

end Go.Proofs.YtjkfppgekepbeaaDoor.Ut
