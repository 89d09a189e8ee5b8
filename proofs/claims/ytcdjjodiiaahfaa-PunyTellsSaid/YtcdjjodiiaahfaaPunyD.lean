/-
  The contract of puny.number.
-/
import Derived.Test.YtcdjjodiiaahfaaPunyC
namespace Go.Proofs.Ytcdjjodiiaahfaa
open Go.RowKit Puny

/-- what 'number' answers -/
def numR (lead limit : Nat) (s : List UInt8) : Nat × Nat :=
  match num lead 1 s with
  | some (v, n) => if v < limit then (v, n) else (0, 0)
  | none => (0, 0)
/-- .. with so much read -/
def numG (lead limit acc weight j : Nat) (rest : List UInt8) : Nat × Nat :=
  match num lead (j + 1) rest with
  | some (v, n) => if acc + weight * v < limit then (acc + weight * v, j + n) else (0, 0)
  | none => (0, 0)
theorem numG_start (lead limit : Nat) (s : List UInt8) : numR lead limit s = numG lead limit 0 1 0 s := by
  unfold numR numG
  cases num lead 1 s with
  | none => rfl
  | some r => obtain ⟨v, n⟩ := r; simp
theorem numG_nil (lead limit acc weight j : Nat) : numG lead limit acc weight j [] = (0, 0) := rfl
theorem numG_bad {lead limit acc weight j : Nat} {c : UInt8} {l : List UInt8} (h : worth c = none) : numG lead limit acc weight j (c :: l) = (0, 0) := by
  unfold numG num; rw [h]
theorem numG_last {lead limit acc weight j x : Nat} {c : UInt8} {l : List UInt8} (h : worth c = some x) (hx : x < thr lead (j + 1)) : numG lead limit acc weight j (c :: l) = if acc + weight * x < limit then (acc + weight * x, j + 1) else (0, 0) := by
  unfold numG num; rw [h]; simp only; rw [if_pos hx]
theorem numG_great {lead limit acc weight j x : Nat} {c : UInt8} {l : List UInt8} (h : worth c = some x) (hx : ¬ acc + weight * x < limit) : numG lead limit acc weight j (c :: l) = (0, 0) := by
  unfold numG num; rw [h]; simp only
  by_cases hlt : x < thr lead (j + 1)
  · rw [if_pos hlt]; simp only; rw [if_neg hx]
  · rw [if_neg hlt]
    cases num lead (j + 1 + 1) l with
    | none => rfl
    | some r =>
      obtain ⟨v, n⟩ := r
      simp only
      have : weight * x ≤ weight * (x + (36 - thr lead (j + 1)) * v) := Nat.mul_le_mul_left _ (Nat.le_add_right _ _)
      rw [if_neg (by omega)]
theorem numG_more {lead limit acc weight j x : Nat} {c : UInt8} {l : List UInt8} (h : worth c = some x) (hx : ¬ x < thr lead (j + 1)) :
    numG lead limit acc weight j (c :: l) = numG lead limit (acc + weight * x) (weight * (36 - thr lead (j + 1))) (j + 1) l := by
  unfold numG
  rw [num, h]
  simp only
  rw [if_neg hx]
  cases num lead (j + 1 + 1) l with
  | none => rfl
  | some r =>
    obtain ⟨v, n⟩ := r
    simp only
    rw [show acc + weight * (x + (36 - thr lead (j + 1)) * v) = acc + weight * x + weight * (36 - thr lead (j + 1)) * v by rw [Nat.mul_add, Nat.mul_assoc]; omega, show j + 1 + n = j + (n + 1) by omega]

def Numbered (r : Nat × Nat) (w : World) (e : Ending) (w' : World) : Prop :=
  e = .returned (.tuple #[.int .i64 r.1, .int .i64 r.2]) ∧ Below w.heap.size w w'
theorem numbered_mk {r : Nat × Nat} {a b : Nat} {w w' : World} (h : r = (a, b)) (hB : Below w.heap.size w w') : Numbered r w (.returned (.tuple #[.int .i64 a, .int .i64 b])) w' := by
  subst h; exact ⟨rfl, hB⟩

def NumRel (s : ByteArray) (lead limit : Nat) (w : World) (s6 s8 s9 : Value) (wr : World) : Prop :=
  ∃ (acc weight j : Nat), s6 = .int .i64 acc ∧ s8 = .int .i64 weight ∧ s9 = .int .i64 ((j : Int) + 1) ∧ j ≤ s.size ∧ acc < limit ∧ weight ≤ 35 * limit ∧
    numR lead limit s.data.toList = numG lead limit acc weight j (s.data.toList.drop j) ∧ Below w.heap.size w wr

set_option maxRecDepth 100000 in
set_option maxHeartbeats 1000000 in
theorem number_any (s : ByteArray) (lead part limit : Nat) (w : World) (hs : s.size ≤ 1000000) (hl : lead ≤ 1000000000000) (hm0 : 0 < limit) (hm : limit ≤ 100000000000) :
    Calls Try.prog 49 #[.string s, .agg #[.int .i64 lead, .int .i64 part], .int .i64 limit] w (Numbered (numR lead limit s.data.toList) w) := by
  go_enter Try.func49, Try.ntmps49
  go_wp2
  go_loopw [6, 8, 9] (fun s6 s8 s9 wr => NumRel s lead limit (w.alloc (.cells #[.int .i64 lead, .int .i64 part] 44)) s6 s8 s9 wr) (fun _ _ s9 _ => s.size + 1 - (intOf s9).toNat)
  case atStart => exact ⟨0, 1, 0, rfl, rfl, rfl, by omega, hm0, by omega, numG_start _ _ _, Below.refl _ _⟩
  case round =>
    obtain ⟨acc, weight, j, rfl, rfl, rfl, hj, hac, hwt, hnum, hB⟩ := hrel
    have HNUM := Lib.hid hnum
    clear hnum
    have hbx : wr.heap[w.heap.size]? = some (.cells #[.int .i64 lead, .int .i64 part] 44 (0, 0)) := by
      rw [hB.block w.heap.size (by simp)]
      exact World.alloc_heap_new w _
    obtain ⟨c0, c1, _, _⟩ := blk2 hbx
    have hBw : Below w.heap.size w wr := ((Below.refl _ w).alloc (Nat.le_refl _) _).trans (hB.mono (by simp))
    have hszr := hB.size
    rw [World.size_alloc] at hszr
    clear hbx
    by_cases hlt : j < s.size
    · have hdrop : s.data.toList.drop j = s[j] :: s.data.toList.drop (j + 1) := List.drop_eq_getElem_cons (by simpa using hlt)
      have HD := Lib.hid hdrop
      clear hdrop
      cases hc : worth s[j] with
      | none =>
        have hdg : dig (s[j].toNat : Int) = -1 := by unfold dig; simp [hc]
        have HC := Lib.hid hc
        clear hc
        go_wp2_with (first | (go_at_call 59; refine (IndexByte_dig _ _).mono ?_; rintro e w1 ⟨rfl, rfl⟩) | fail)
        go_ret2
        exact numbered_mk (a := 0) (b := 0) (by rw [HNUM.out, HD.out, numG_bad HC.out]) hBw
      | some x =>
        have hx36 := (sign_worth hc).2
        have hdg : dig (s[j].toNat : Int) = (x : Int) := by unfold dig; simp [hc]
        have HC := Lib.hid hc
        clear hc
        have hpb : weight * x ≤ weight * 35 := Nat.mul_le_mul_left _ (by omega)
        have hpi : (x : Int) * (weight : Int) = ((weight * x : Nat) : Int) := by rw [Nat.mul_comm]; simp
        obtain ⟨t, ht⟩ : ∃ t, thr lead (j + 1) = t := ⟨_, rfl⟩
        have ht1 := thr_lo lead (j + 1)
        have ht2 := thr_hi lead (j + 1)
        have ct : ∀ u, Calls Try.prog 45 #[.agg #[.int .i64 lead, .int .i64 part], .int .i64 ((j : Int) + 1)] u fun e w' => e = .returned (.int .i64 (t : Nat)) ∧ Below u.heap.size u w' := fun u => by
          rw [← ht]; exact threshold_any lead part (j + 1) u (by omega) (by omega)
        rw [ht] at ht1 ht2
        have hpx : 1 ≤ x → weight ≤ weight * x := fun h => Nat.le_mul_of_pos_right _ h
        have hqb : weight * (36 - t) ≤ weight * 35 := Nat.mul_le_mul_left _ (by omega)
        have hqi : (weight : Int) * ((36 : Int) - (t : Int)) = ((weight * (36 - t) : Nat) : Int) := by
          rw [show (36 : Int) - (t : Int) = ((36 - t : Nat) : Int) by omega]; simp
        obtain ⟨p, hp⟩ : ∃ p, weight * x = p := ⟨_, rfl⟩
        obtain ⟨q, hq⟩ : ∃ q, weight * (36 - t) = q := ⟨_, rfl⟩
        rw [hp] at hpb hpi hpx
        rw [hq] at hqb hqi
        have HP := Lib.hid hp
        have HQ := Lib.hid hq
        have HT := Lib.hid ht
        clear hp hq ht
        by_cases hgt : acc + p < limit
        · by_cases hxt : x < t
          · go_wp2_with (first
              | (go_at_call 59; refine (IndexByte_dig _ _).mono ?_; rintro e w1 ⟨rfl, rfl⟩)
              | (go_at_call 45; refine (ct _).mono ?_; rintro e w1 ⟨rfl, hB1⟩)
              | fail)
            go_ret2
            exact numbered_mk (a := acc + p) (b := j + 1) (by rw [HNUM.out, HD.out, numG_last HC.out (by rw [HT.out]; exact hxt), HP.out, if_pos hgt]) (hBw.trans (hB1.mono (by omega)))
          · have hwp := hpx (by omega)
            go_wp2_with (first
              | (go_at_call 59; refine (IndexByte_dig _ _).mono ?_; rintro e w1 ⟨rfl, rfl⟩)
              | (go_at_call 45; refine (ct _).mono ?_; rintro e w1 ⟨rfl, hB1⟩)
              | fail)
            go_roundw
            case rel =>
              exact ⟨acc + p, q, j + 1, by go_num, rfl, by go_num, by omega, hgt, by omega, by rw [HNUM.out, HD.out, numG_more HC.out (by rw [HT.out]; exact hxt), HP.out, HT.out, HQ.out], hB.trans (hB1.mono (by simp; omega))⟩
            case measure => simp [intOf]; omega
        · go_wp2_with (first
            | (go_at_call 59; refine (IndexByte_dig _ _).mono ?_; rintro e w1 ⟨rfl, rfl⟩)
            | fail)
          go_ret2
          exact numbered_mk (a := 0) (b := 0) (by rw [HNUM.out, HD.out, numG_great HC.out (by rw [HP.out]; exact hgt)]) hBw
    · obtain rfl : j = s.size := by omega
      go_wp2
      go_ret2
      exact numbered_mk (a := 0) (b := 0) (by rw [HNUM.out, List.drop_of_length_le (by simp), numG_nil]) hBw
end Go.Proofs.Ytcdjjodiiaahfaa
