/-
  The contract of utf.first.
-/
import Derived.Test.YteggchjehfkppaaUtfC
namespace Go.Proofs.Yteggchjehfkppaa
open Go.RowKit Utf

def FirstDone (bs : List Int) (w : World) (e : Ending) (w' : World) : Prop :=
  e = .returned (.tuple #[.int .i32 (firstC bs).1, .int .i64 (firstC bs).2.1, .bool (firstC bs).2.2]) ∧ Below w.heap.size w w'

def rb (i : Nat) : Int := if i ≤ 1 then 127 else if i = 2 then 8191 else if i = 3 then 524287 else 33554431
theorem rb_le {i : Nat} {r : Int} (h : i < 4) (hr : r ≤ rb i) : r ≤ 524287 := by
  unfold rb at hr
  split at hr
  · omega
  · split at hr
    · omega
    · split at hr <;> omega
theorem rb_step {i : Nat} {r b : Int} (h1 : 1 ≤ i) (h : i < 4) (hr : r ≤ rb i) (hb : b < 64) : r * 64 + b ≤ rb (i + 1) := by
  have : i = 1 ∨ i = 2 ∨ i = 3 := by omega
  rcases this with rfl | rfl | rfl <;> simp [rb] at hr ⊢ <;> omega

theorem firstC_lead {bs : List Int} {c : Int} {t : List Int} (h : bs = c :: t) (h0 : (lead c).1 ≠ 0) : firstC bs = go bs (lead c).1.toNat ((lead c).1.toNat - 1) 1 (lead c).2.1 (lead c).2.2.1 (lead c).2.2.2 := by
  subst h
  simp [firstC, h0]

theorem go_none {bs : List Int} {s k : Nat} {r lo hi : Int} (h : k < s) (hb : bs[k]? = none) : go bs s (s - k) k r lo hi = (65533, k, false) := by
  rw [show s - k = (s - k - 1) + 1 from by omega]
  simp [go, hb]
theorem go_bad {bs : List Int} {s k : Nat} {r lo hi y : Int} (h : k < s) (hb : bs[k]? = some y) (hy : y < lo ∨ hi < y) : go bs s (s - k) k r lo hi = (65533, k, false) := by
  rw [show s - k = (s - k - 1) + 1 from by omega]
  simp [go, hb, hy]
theorem go_next {bs : List Int} {s k : Nat} {r lo hi y : Int} (h : k < s) (hb : bs[k]? = some y) (hy : ¬ (y < lo ∨ hi < y)) : go bs s (s - k) k r lo hi = go bs s (s - (k + 1)) (k + 1) (r * 64 + y % 64) 128 191 := by
  rw [show s - k = (s - (k + 1)) + 1 from by omega]
  simp [go, hb, hy]
theorem go_done {bs : List Int} {s k : Nat} {r lo hi : Int} (h : s ≤ k) : go bs s (s - k) k r lo hi = (r, s, true) := by
  rw [show s - k = 0 from by omega]
  rfl
theorem first_mk {bs : List Int} {w w' : World} {r : Int} {k : Nat} {ok : Bool} (h : firstC bs = (r, k, ok)) (hB : Below w.heap.size w w') : FirstDone bs w (.returned (.tuple #[.int .i32 r, .int .i64 k, .bool ok])) w' := by
  unfold FirstDone
  rw [h]
  exact ⟨rfl, hB⟩

def FRel (bs : List Int) (s : Nat) (r lo hi i : Value) : Prop :=
  ∃ (k : Nat) (r' lo' hi' : Int), 1 ≤ k ∧ k ≤ s ∧ k ≤ bs.length ∧ i = .int .i64 k ∧ r = .int .i32 r' ∧ lo = .int .u8 lo' ∧ hi = .int .u8 hi' ∧ 0 ≤ r' ∧ r' ≤ rb k ∧ firstC bs = go bs s (s - k) k r' lo' hi'

set_option maxHeartbeats 2000000 in
theorem first_lead (bs : List Int) (b off n c : Nat) (w : World) (hn : bs.length = n) (h1 : 1 ≤ n) (hm : n ≤ 100000) (hbyt : Byt bs) (hc : ∀ k, k < (cl .u8 bs).length → w.cell? ⟨b, off + k, none⟩ = (cl .u8 bs)[k]?) (hb : b < w.heap.size)
    (c0 : Int) (hc0 : w.cell? ⟨b, off, none⟩ = some (.int .u8 c0)) (h00 : 0 ≤ c0) (h05 : c0 ≤ 255) (s : Nat) (x lo hi : Int) (hl : lead c0 = ((s : Int), x, lo, hi)) (hs1 : 1 ≤ s) (hs4 : s ≤ 4) (hx0 : 0 ≤ x) (hx1 : x ≤ 127)
    (hf : firstC bs = go bs s (s - 1) 1 x lo hi) :
    Calls Try.prog 30 #[.slice (some ⟨b, off, none⟩) n c] w (FirstDone bs w) := by
  have hs0 : ((s : Int) == 0) = false := by simp; omega
  have HN := Lib.hid hn
  have HF := Lib.hid hf
  have HL := Lib.hid hl
  have HC := Lib.hid hc
  clear hn hf hl hc
  go_enter Try.func30, Try.ntmps30
  go_wp2_with (go_at_call 33; refine (ask_any _ _ h00 h05).mono ?_; rintro e w1 ⟨rfl, hB1⟩; rw [HL.out]; simp only [ldV])
  go_quiet (fail)
  have hB2 : Below w.heap.size w ((w1.alloc (.cells #[.int .i64 (s : Int), .int .u8 x, .int .u8 lo, .int .u8 hi] 56)).drewN nq) := by
    have h := hB1.alloc hB1.size (.cells #[.int .i64 (s : Int), .int .u8 x, .int .u8 lo, .int .u8 hi] 56)
    exact ⟨h.os, h.tape, h.output, h.size, h.block⟩
  go_wp2
  go_loop [6, 7, 8, 9] (fun r lo hi i => FRel bs s r lo hi i) (fun _ _ _ i => s - (intOf i).toNat)
  case atStart => exact ⟨1, x, lo, hi, by omega, by omega, by rw [HN.out]; omega, rfl, rfl, rfl, rfl, hx0, by simpa [rb] using hx1, HF.out⟩
  case round =>
    obtain ⟨k, r', lo', hi', hk1, hks, hkn, rfl, rfl, rfl, rfl, hr0, hr1, hgo⟩ := hrel
    rw [HN.out] at hkn
    have HG := Lib.hid hgo
    have HR := Lib.hid hr1
    clear hgo hr1
    by_cases hlt : k < s
    · by_cases hkn' : k = n
      · subst hkn'
        go_wp2
        go_ret3
        exact first_mk (HG.out.trans (go_none hlt (List.getElem?_eq_none (by rw [HN.out]; omega)))) hB2
      · have hkl : k < n := by omega
        have hne : ((k : Int) == (n : Int)) = false := by simp; omega
        have hcell := HC.out k (by simp [HN.out]; omega)
        rw [cl_get _ _ _ (by rw [HN.out]; exact hkl)] at hcell
        have hcell1 := (hB1.cell (p := ⟨b, off + k, none⟩) hb).trans hcell
        obtain ⟨y, hy⟩ : ∃ y, bs[k]'(by rw [HN.out]; exact hkl) = y := ⟨_, rfl⟩
        rw [hy] at hcell hcell1
        have hyr : 0 ≤ y ∧ y ≤ 255 := by rw [← hy]; exact hbyt _ (List.getElem_mem _)
        have hbs : bs[k]? = some y := by rw [← hy]; exact List.getElem?_eq_getElem _
        have HB := Lib.hid hbs
        clear hy hbs hcell
        have hb1 : b < w1.heap.size := by have := hB1.size; omega
        have hr2 : r' ≤ 524287 := rb_le (by omega) HR.out
        by_cases hlo : y < lo'
        · go_wp2
          go_ret3
          exact first_mk (HG.out.trans (go_bad hlt HB.out (.inl hlo))) hB2
        by_cases hhi : hi' < y
        · go_wp2
          go_ret3
          exact first_mk (HG.out.trans (go_bad hlt HB.out (.inr hhi))) hB2
        · go_wp2
          go_round
          case rel => exact ⟨k + 1, r' * 64 + y % 64, 128, 191, by omega, by omega, by rw [HN.out]; omega, by go_num, by go_num, rfl, rfl, by omega, rb_step hk1 (by omega) HR.out (by omega), HG.out.trans (go_next hlt HB.out (by omega))⟩
          case measure => simp [intOf]; omega
    · go_wp2
      go_quiet (fail)
      go_wp2
      go_ret3
      exact first_mk (HG.out.trans (go_done (by omega))) (by exact ⟨hB2.os, hB2.tape, hB2.output, hB2.size, hB2.block⟩)

set_option maxHeartbeats 1000000 in
theorem first_bad (bs : List Int) (b off n c : Nat) (w : World) (h1 : 1 ≤ n) (hm : n ≤ 100000) (c0 : Int) (hc0 : w.cell? ⟨b, off, none⟩ = some (.int .u8 c0)) (h00 : 0 ≤ c0) (h05 : c0 ≤ 255)
    (hl : lead c0 = (0, 0, 0, 0)) (hf : firstC bs = (65533, 1, false)) :
    Calls Try.prog 30 #[.slice (some ⟨b, off, none⟩) n c] w (FirstDone bs w) := by
  have HF := Lib.hid hf
  have HL := Lib.hid hl
  clear hf hl
  go_enter Try.func30, Try.ntmps30
  go_wp2_with (go_at_call 33; refine (ask_any _ _ h00 h05).mono ?_; rintro e w1 ⟨rfl, hB1⟩; rw [HL.out]; simp only [ldV])
  go_ret3
  exact first_mk HF.out (hB1.alloc hB1.size _)

theorem lead_parts (c : Int) (h0 : 0 ≤ c) (h1 : c ≤ 255) : lead c = (0, 0, 0, 0) ∨ ∃ (s : Nat) (x lo hi : Int), lead c = ((s : Int), x, lo, hi) ∧ 1 ≤ s ∧ s ≤ 4 ∧ 0 ≤ x ∧ x ≤ 127 := by
  by_cases a1 : c ≤ 127
  · exact .inr ⟨1, c, 0, 0, lead1 a1, by omega, by omega, h0, a1⟩
  by_cases a2 : c < 194
  · exact .inl (lead0 (by omega) (.inl a2))
  by_cases a3 : 244 < c
  · exact .inl (lead0 (by omega) (.inr a3))
  by_cases a4 : c ≤ 223
  · exact .inr ⟨2, _, _, _, lead2 (by omega) a4, by omega, by omega, by omega, by omega⟩
  by_cases a5 : c ≤ 239
  · exact .inr ⟨3, _, _, _, lead3 (by omega) a5, by omega, by omega, by omega, by omega⟩
  · exact .inr ⟨4, _, _, _, lead4 (by omega) (by omega), by omega, by omega, by omega, by omega⟩

theorem first_any (bs : List Int) (A : Option Addr) (n c : Nat) (w : World) (hn : bs.length = n) (h1 : 1 ≤ n) (hm : n ≤ 100000) (hbyt : Byt bs) (hr : Row w w.heap.size A (cl .u8 bs)) :
    Calls Try.prog 30 #[.slice A n c] w (FirstDone bs w) := by
  obtain ⟨b, off, rfl, hb, hc⟩ := hr.at_ (by simp; omega)
  cases bs with
  | nil => simp at hn; omega
  | cons c0 t =>
    have hc0 := hc 0 (by simp)
    rw [cl_get _ _ _ (by simp), Nat.add_zero] at hc0
    have hby := hbyt c0 (by simp)
    rcases lead_parts c0 hby.1 hby.2 with hl | ⟨s, x, lo, hi, hl, hs1, hs4, hx0, hx1⟩
    · exact first_bad _ b off n c w h1 hm c0 hc0 hby.1 hby.2 hl (by simp [firstC, hl])
    · refine first_lead _ b off n c w hn h1 hm hbyt hc hb c0 hc0 hby.1 hby.2 s x lo hi hl hs1 hs4 hx0 hx1 ?_
      rw [firstC_lead rfl (by rw [hl]; show (s : Int) ≠ 0; omega), hl]
      simp

end Go.Proofs.Yteggchjehfkppaa
