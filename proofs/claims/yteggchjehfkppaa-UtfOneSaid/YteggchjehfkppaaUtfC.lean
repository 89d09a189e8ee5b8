/-
  The contracts of utf.narrow, utf.ask, utf.first.
-/
import Derived.Test.YteggchjehfkppaaUtfA
import Derived.Deep.QuietTactic
import Derived.BigQuiet
namespace Go.Proofs.Yteggchjehfkppaa
open Go.RowKit Utf

/-- a lead as a value -/
def ldV (s b l h : Int) : Value := .agg #[.int .i64 s, .int .u8 b, .int .u8 l, .int .u8 h]

def Narrowed (c s b : Int) (w : World) (e : Ending) (w' : World) : Prop :=
  e = .returned (ldV s b (loB c) (hiB c)) ∧ Below w.heap.size w w'

theorem narrowed_mk {c s b l h : Int} {w w' : World} (hl : loB c = l) (hh : hiB c = h) (hB : Below w.heap.size w w') : Narrowed c s b w (.returned (ldV s b l h)) w' := by
  subst hl hh
  exact ⟨rfl, hB⟩

set_option maxHeartbeats 1000000 in
theorem narrow_any (c s b : Int) (w : World) : Calls Try.prog 34 #[.int .u8 c, .agg #[.int .i64 s, .int .u8 b, .int .u8 128, .int .u8 191]] w (Narrowed c s b w) := by
  by_cases h1 : c = 224
  · subst h1
    go_enter Try.func34, Try.ntmps34
    go_wp2
    exact bodyPost_ret (v := ldV s b 160 191) (by simp [results, Try.results34, go_sem, ldV]) rfl (narrowed_mk rfl rfl (((Below.refl _ _).alloc (Nat.le_refl _) _).alloc (by simp) _))
  have g1 : (c == 224) = false := by simpa using h1
  by_cases h2 : c = 237
  · subst h2
    go_enter Try.func34, Try.ntmps34
    go_wp2
    exact bodyPost_ret (v := ldV s b 128 159) (by simp [results, Try.results34, go_sem, ldV]) rfl (narrowed_mk rfl rfl (((Below.refl _ _).alloc (Nat.le_refl _) _).alloc (by simp) _))
  have g2 : (c == 237) = false := by simpa using h2
  by_cases h3 : c = 240
  · subst h3
    go_enter Try.func34, Try.ntmps34
    go_wp2
    exact bodyPost_ret (v := ldV s b 144 191) (by simp [results, Try.results34, go_sem, ldV]) rfl (narrowed_mk rfl rfl (((Below.refl _ _).alloc (Nat.le_refl _) _).alloc (by simp) _))
  have g3 : (c == 240) = false := by simpa using h3
  by_cases h4 : c = 244
  · subst h4
    go_enter Try.func34, Try.ntmps34
    go_wp2
    exact bodyPost_ret (v := ldV s b 128 143) (by simp [results, Try.results34, go_sem, ldV]) rfl (narrowed_mk rfl rfl (((Below.refl _ _).alloc (Nat.le_refl _) _).alloc (by simp) _))
  have g4 : (c == 244) = false := by simpa using h4
  have H1 := Lib.hid (show loB c = 128 by simp [loB, h1, h3])
  have H2 := Lib.hid (show hiB c = 191 by simp [hiB, h2, h4])
  clear h1 h2 h3 h4
  go_enter Try.func34, Try.ntmps34
  go_wp2
  exact bodyPost_ret (v := ldV s b 128 191) (by simp [results, Try.results34, go_sem, ldV]) rfl (narrowed_mk H1.out H2.out (((Below.refl _ _).alloc (Nat.le_refl _) _).alloc (by simp) _))

def Asked (c : Int) (w : World) (e : Ending) (w' : World) : Prop :=
  e = .returned (ldV (lead c).1 (lead c).2.1 (lead c).2.2.1 (lead c).2.2.2) ∧ Below w.heap.size w w'

/-- a block of four cells that was laid ahead of a call -/
theorem blk4 {w w1 : World} {a b c d : Value} {t : TypeId} (hb : Below (w.alloc (.cells #[a, b, c, d] t)).heap.size (w.alloc (.cells #[a, b, c, d] t)) w1) :
    (w1.cell? ⟨w.heap.size, 0, none⟩ = some a ∧ w1.cell? ⟨w.heap.size, 1, none⟩ = some b ∧ w1.cell? ⟨w.heap.size, 2, none⟩ = some c ∧ w1.cell? ⟨w.heap.size, 3, none⟩ = some d) ∧
    (w1.frozen? ⟨w.heap.size, 0, none⟩ = false ∧ w1.frozen? ⟨w.heap.size, 1, none⟩ = false ∧ w1.frozen? ⟨w.heap.size, 2, none⟩ = false ∧ w1.frozen? ⟨w.heap.size, 3, none⟩ = false) ∧ w.heap.size < w1.heap.size := by
  have hblk : w1.heap[w.heap.size]? = some (.cells #[a, b, c, d] t (0, 0)) := (hb.block w.heap.size (by simp)).trans (World.alloc_heap_new w _)
  have hsz := hb.size
  rw [World.size_alloc] at hsz
  refine ⟨⟨?_, ?_, ?_, ?_⟩, ⟨?_, ?_, ?_, ?_⟩, by omega⟩
  all_goals simp [World.cell?, World.frozen?, hblk]

set_option maxHeartbeats 1000000 in
theorem ask_any (c : Int) (w : World) (h0 : 0 ≤ c) (h5 : c ≤ 255) : Calls Try.prog 33 #[.int .u8 c] w (Asked c w) := by
  by_cases h1 : c ≤ 127
  · have HL := Lib.hid (lead1 h1)
    go_enter Try.func33, Try.ntmps33
    go_wp2
    exact bodyPost_ret (v := ldV 1 c 0 0) (by simp [results, Try.results33, go_sem, ldV]) rfl ⟨by rw [HL.out], (Below.refl _ _).alloc (Nat.le_refl _) _⟩
  by_cases h2 : c < 194
  · have HL := Lib.hid (lead0 (by omega) (.inl h2))
    go_enter Try.func33, Try.ntmps33
    go_wp2
    exact bodyPost_ret (v := ldV 0 0 0 0) (by simp [results, Try.results33, go_sem, ldV]) rfl ⟨by rw [HL.out], (Below.refl _ _).alloc (Nat.le_refl _) _⟩
  by_cases h3 : 244 < c
  · have HL := Lib.hid (lead0 (by omega) (.inr h3))
    go_enter Try.func33, Try.ntmps33
    go_wp2
    exact bodyPost_ret (v := ldV 0 0 0 0) (by simp [results, Try.results33, go_sem, ldV]) rfl ⟨by rw [HL.out], (Below.refl _ _).alloc (Nat.le_refl _) _⟩
  by_cases h4 : c ≤ 223
  · have HL := Lib.hid (lead2 (by omega) h4)
    go_enter Try.func33, Try.ntmps33
    go_wp2
    refine bodyPost_ret (v := ldV 2 (c % 32) 128 191) (by simp [results, Try.results33, go_sem, ldV]) rfl ⟨by rw [HL.out], (Below.refl _ _).alloc (Nat.le_refl _) _⟩
  by_cases h6 : c ≤ 239
  · have HL := Lib.hid (lead3 (by omega) h6)
    go_enter Try.func33, Try.ntmps33
    go_wp2_with (go_at_call 34; refine (narrow_any _ _ _ _).mono ?_; rintro e w1 ⟨rfl, hb⟩; obtain ⟨⟨c0, c1, c2, c3⟩, ⟨f0, f1, f2, f3⟩, hz⟩ := blk4 hb; simp only [ldV])
    refine bodyPost_ret (v := ldV 3 (c % 16) (loB c) (hiB c)) (by simp [results, Try.results33, go_sem, ldV, c0, c1, c2, c3]) rfl ⟨by rw [HL.out], ?_⟩
    exact (((((((Below.refl _ w).alloc (Nat.le_refl _) _).trans (hb.mono (by simp))).setCell (p := ⟨w.heap.size, 0, none⟩) (Nat.le_refl _) _).setCell (p := ⟨w.heap.size, 1, none⟩) (Nat.le_refl _) _).setCell (p := ⟨w.heap.size, 2, none⟩) (Nat.le_refl _) _).setCell (p := ⟨w.heap.size, 3, none⟩) (Nat.le_refl _) _)
  · have HL := Lib.hid (lead4 (c := c) (by omega) (by omega))
    go_enter Try.func33, Try.ntmps33
    go_wp2_with (go_at_call 34; refine (narrow_any _ _ _ _).mono ?_; rintro e w1 ⟨rfl, hb⟩; obtain ⟨⟨c0, c1, c2, c3⟩, ⟨f0, f1, f2, f3⟩, hz⟩ := blk4 hb; simp only [ldV])
    refine bodyPost_ret (v := ldV 4 (c % 8) (loB c) (hiB c)) (by simp [results, Try.results33, go_sem, ldV, c0, c1, c2, c3]) rfl ⟨by rw [HL.out], ?_⟩
    exact (((((((Below.refl _ w).alloc (Nat.le_refl _) _).trans (hb.mono (by simp))).setCell (p := ⟨w.heap.size, 0, none⟩) (Nat.le_refl _) _).setCell (p := ⟨w.heap.size, 1, none⟩) (Nat.le_refl _) _).setCell (p := ⟨w.heap.size, 2, none⟩) (Nat.le_refl _) _).setCell (p := ⟨w.heap.size, 3, none⟩) (Nat.le_refl _) _)

end Go.Proofs.Yteggchjehfkppaa
