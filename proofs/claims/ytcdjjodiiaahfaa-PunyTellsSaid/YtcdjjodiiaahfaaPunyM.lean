/-
  The contract of puny.Decode.
-/
import Derived.Test.YtcdjjodiiaahfaaPunyK
import Derived.Test.YtcdjjodiiaahfaaPunyL
import Derived.Laws.IdiomStrings
import Derived.Laws.RangeString
namespace Go.Proofs.Ytcdjjodiiaahfaa
open Go.RowKit Go.Shelf Puny

attribute [local go_sem] Oper.semAt_some

/-- bytes as numbers -/
def nat8 (l : List UInt8) : List Nat := l.map (·.toNat)

theorem runes_ascii (s : ByteArray) (h : ∀ x ∈ s.data.toList, x.toNat < 128) : ∀ (bound i : Nat) (acc : Array Value), i + bound = s.size → Conv.runesFrom s bound i acc = acc ++ (cn (nat8 (s.data.toList.drop i))).toArray
  | 0, i, acc, hi => by
    rw [Conv.runesFrom, List.drop_of_length_le (by simp; omega)]; simp [nat8]
  | bound + 1, i, acc, hi => by
    have hlt : i < s.size := by omega
    have hd : s.data.toList.drop i = s[i] :: s.data.toList.drop (i + 1) := List.drop_eq_getElem_cons (by simpa using hlt)
    have ha : (s[i]'hlt).toNat < 128 := h _ (by
      have : s[i] ∈ s.data.toList.drop i := by rw [hd]; exact List.mem_cons_self ..
      exact List.mem_of_mem_drop this)
    rw [Conv.runesFrom, if_pos hlt, decode_ascii s i hlt ha]
    simp only
    rw [runes_ascii s h bound (i + 1) _ (by omega), hd]
    simp [nat8]

theorem conv_runes (s : ByteArray) (w : World) (h : ∀ x ∈ s.data.toList, x.toNat < 128) (hs : s.size ≤ 1000000) :
    ∃ c, (convert 9 22 (.string s)).run Try.prog w = .ok (.slice (some ⟨w.heap.size, 0, none⟩) (nat8 s.data.toList).length c) (w.drew.alloc (.cells ((cn (nat8 s.data.toList)).toArray ++ Array.replicate (c - (nat8 s.data.toList).length) (.int .i32 0)) 21)) ∧ (nat8 s.data.toList).length ≤ c ∧ c ≤ maxLen := by
  have hr := runes_ascii s h s.size 0 #[] (by omega)
  rw [List.drop_zero, Array.empty_append] at hr
  have hl : (Conv.runesFrom s s.size 0 #[]).size = (nat8 s.data.toList).length := by rw [hr]; simp
  have hl2 : (nat8 s.data.toList).length = s.size := by simp [nat8]
  have := run_runes_of_string (P := Try.prog) w 9 22 21 s Try.underlying9 Try.underlying22 Try.underlying21 (by rw [hl, hl2]; omega)
  rw [hl, hr] at this
  exact ⟨_, this, grownCap_ge w _ _ _, grownCap_le_maxLen w _ _ _ (by rw [hl2]; unfold maxLen; omega)⟩

/-- what the loop keeps -/
def DecI (b : List Nat) (w : World) (n1 B2 B3 B7 B8 B9 H : Nat) (pre : List (Nat × Bool)) (W : World) : Prop :=
  ∃ (out : List Nat) (n i : Nat) (v : Value), insL b 128 0 pre = some (out, n, i) ∧ W.heap[B2]? = some (.cells #[.slice none 0 0] 22 (0, 0)) ∧ W.heap[B3]? = some (.cells #[.int .i64 0] 24 (0, 0)) ∧
    W.heap[B7]? = some (.cells #[v] 22 (0, 0)) ∧ W.heap[B8]? = some (.cells #[.int .i64 (n : Int)] 2 (0, 0)) ∧ W.heap[B9]? = some (.cells #[.int .i64 (i : Int)] 2 (0, 0)) ∧
    W.ownsRow w.heap.size 21 1 v out.length (cn out) ∧ (∀ j, v.ownBlock = some j → j < n1 ∨ H ≤ j) ∧ Below w.heap.size w W ∧ i ≤ out.length ∧ n ≤ 1114111 ∧ out.length = b.length + pre.length
def DecX (b : List Nat) (w : World) (B2 B3 : Nat) (pre : List (Nat × Bool)) (W : World) : Prop :=
  insL b 128 0 pre = none ∧ W.heap[B2]? = some (.cells #[.slice none 0 0] 22 (0, 0)) ∧ W.heap[B3]? = some (.cells #[.int .i64 40] 24 (0, 0)) ∧ Below w.heap.size w W

theorem sca_iff (n : Nat) : isSca (n : Int) = sca n := by
  unfold isSca sca
  rw [decide_eq_decide]
  omega

theorem insL_snoc {b out : List Nat} {pre : List (Nat × Bool)} {n i d : Nat} (h : insL b 128 0 pre = some (out, n, i)) (hs : sca (n + (i + d) / (out.length + 1)) = true) :
    insL b 128 0 (pre ++ [(d, true)]) = some (put out ((i + d) % (out.length + 1)) (n + (i + d) / (out.length + 1)), n + (i + d) / (out.length + 1), (i + d) % (out.length + 1) + 1) := by
  rw [insL_append, h]
  simp [insL, hs, put]
theorem insL_fail {b out : List Nat} {pre : List (Nat × Bool)} {n i d : Nat} {ok : Bool} (h : insL b 128 0 pre = some (out, n, i)) (hs : (ok && sca (n + (i + d) / (out.length + 1))) = false) :
    insL b 128 0 (pre ++ [(d, ok)]) = none := by
  rw [insL_append, h]
  simp only [Option.bind_some, insL]
  rw [if_neg (by rw [hs]; simp)]

/-- a round that goes on -/
theorem dec_round {b out : List Nat} {pre : List (Nat × Bool)} {w X X1 X2 : World} {n1 B2 B3 B7 B8 B9 D H d n i : Nat} {v v2 : Value} (_h2 : B2 < n1) (_h3 : B3 < n1) (h7 : B7 < n1) (h8 : B8 < n1) (h9 : B9 < n1)
    (_g2 : w.heap.size ≤ B2) (_g3 : w.heap.size ≤ B3) (g7 : w.heap.size ≤ B7) (g8 : w.heap.size ≤ B8) (g9 : w.heap.size ≤ B9) (e28 : B2 ≠ B8) (e38 : B3 ≠ B8) (e78 : B7 ≠ B8) (e98 : B9 ≠ B8) (e27 : B2 ≠ B7) (e37 : B3 ≠ B7) (e97 : B9 ≠ B7) (e29 : B2 ≠ B9) (e39 : B3 ≠ B9)
    (hn1 : n1 ≤ D) (hD : D + 2 ≤ H) (hHX : H ≤ X.heap.size) (hins : insL b 128 0 pre = some (out, n, i)) (hsc : sca (n + (i + d) / (out.length + 1)) = true)
    (b2 : X.heap[B2]? = some (.cells #[.slice none 0 0] 22 (0, 0))) (b3 : X.heap[B3]? = some (.cells #[.int .i64 0] 24 (0, 0))) (b7 : X.heap[B7]? = some (.cells #[v] 22 (0, 0)))
    (b8 : X.heap[B8]? = some (.cells #[.int .i64 (n : Int)] 2 (0, 0))) (b9 : X.heap[B9]? = some (.cells #[.int .i64 (i : Int)] 2 (0, 0))) (hown : X.ownsRow w.heap.size 21 1 v out.length (cn out)) (hob : ∀ j, v.ownBlock = some j → j < n1 ∨ H ≤ j) (hB : Below w.heap.size w X)
    (hlen : out.length = b.length + pre.length) (hX1 : Free (fun j => j = B8) X X1) (b81 : X1.heap[B8]? = some (.cells #[.int .i64 ((n + (i + d) / (out.length + 1) : Nat) : Int)] 2 (0, 0)))
    (hown2 : X2.ownsRow w.heap.size 21 1 v2 (out.length + 1) (cn (put out ((i + d) % (out.length + 1)) (n + (i + d) / (out.length + 1))))) (hgr : Grew X1 v X2 v2) :
    SameBooks D X ((X2.setCell ⟨B7, 0, none⟩ v2).setCell ⟨B9, 0, none⟩ (.int .i64 (((i + d) % (out.length + 1) : Nat) + 1 : Int))) ∧
    Kept w.heap.size n1 D H X ((X2.setCell ⟨B7, 0, none⟩ v2).setCell ⟨B9, 0, none⟩ (.int .i64 (((i + d) % (out.length + 1) : Nat) + 1 : Int))) ∧
    DecI b w n1 B2 B3 B7 B8 B9 H (pre ++ [(d, true)]) ((X2.setCell ⟨B7, 0, none⟩ v2).setCell ⟨B9, 0, none⟩ (.int .i64 (((i + d) % (out.length + 1) : Nat) + 1 : Int))) := by
  have n2 := own_ne hown b2 (by decide)
  have n3 := own_ne hown b3 (by decide)
  have n7 := own_ne hown b7 (by decide)
  have n9 := own_ne hown b9 (by decide)
  have lt : ∀ {j : Nat} {o : Obj}, X.heap[j]? = some o → j < X.heap.size := fun h => (Array.getElem?_eq_some_iff.1 h).1
  have to2 : ∀ {j : Nat} {o : Obj}, X.heap[j]? = some o → j ≠ B8 → v.ownBlock ≠ some j → X2.heap[j]? = some o := fun {j o} h hj hn =>
    (hgr.1.block j (Nat.lt_of_lt_of_le (lt h) hX1.2.2.2.1) (fun e => hn e.symm)).trans ((hX1.2.2.2.2 j (lt h) hj).trans h)
  have b22 := to2 b2 e28 (fun e => n2 _ e rfl)
  have b32 := to2 b3 e38 (fun e => n3 _ e rfl)
  have b72 := to2 b7 e78 (fun e => n7 _ e rfl)
  have b92 := to2 b9 e98 (fun e => n9 _ e rfl)
  have n8 := own_ne hown b8 (by decide)
  have b82 : X2.heap[B8]? = some (.cells #[.int .i64 ((n + (i + d) / (out.length + 1) : Nat) : Int)] 2 (0, 0)) := (hgr.1.block B8 (Array.getElem?_eq_some_iff.1 b81).1 (fun e => n8 _ e.symm rfl)).trans b81
  have m2 := own_ne hown2 b22 (by decide)
  have m7 := own_ne hown2 b72 (by decide)
  have m9 := own_ne hown2 b92 (by decide)
  have free : Free (fun j => v.ownBlock = some j ∨ j = B8 ∨ j = B7 ∨ j = B9) X ((X2.setCell ⟨B7, 0, none⟩ v2).setCell ⟨B9, 0, none⟩ (.int .i64 (((i + d) % (out.length + 1) : Nat) + 1 : Int))) := by
    have f1 : Free (fun j => v.ownBlock = some j ∨ j = B8 ∨ j = B7 ∨ j = B9) X X2 := ((Free.refl _ X).trans hX1 (fun j _ e => .inr (.inl e))).trans (Free.of_grown hgr.1) (fun j _ e => .inl e)
    exact (f1.trans (Free.store _ _ _) (fun j _ e => .inr (.inr (.inl e)))).trans (Free.store _ _ _) (fun j _ e => .inr (.inr (.inr e)))
  have hrl : (i + d) % (out.length + 1) ≤ out.length := by have := Nat.mod_lt (i + d) (show 0 < out.length + 1 by omega); omega
  have hsc2 : n + (i + d) / (out.length + 1) ≤ 1114111 := by have := hsc; unfold sca at this; simp at this; exact this.1
  have hsnoc := insL_snoc hins hsc
  generalize hX' : ((X2.setCell ⟨B7, 0, none⟩ v2).setCell ⟨B9, 0, none⟩ (.int .i64 (((i + d) % (out.length + 1) : Nat) + 1 : Int))) = X' at free ⊢
  have notS : ∀ j, n1 ≤ j → j < H → ¬ (v.ownBlock = some j ∨ j = B8 ∨ j = B7 ∨ j = B9) := fun j hj hj2 h => by
    rcases h with h | h | h | h
    · have := hob j h; omega
    · omega
    · omega
    · omega
  have notL : ∀ j, j < w.heap.size → ¬ (v.ownBlock = some j ∨ j = B8 ∨ j = B7 ∨ j = B9) := fun j hj h => by
    rcases h with h | h | h | h
    · have := (hown.lt j h).1; omega
    · omega
    · omega
    · omega
  refine ⟨⟨free.2.2.2.2 D (by omega) (notS D hn1 (by omega)), free.2.2.2.2 (D + 1) (by omega) (notS (D + 1) (by omega) (by omega))⟩, ⟨free.2.2.2.1, fun j hj => ?_⟩, _, _, _, v2, hsnoc, ?_, ?_, ?_, ?_, ?_, ?_, ?_, ?_, ?_, ?_, ?_⟩
  · rcases hj with hj | ⟨hj1, hj2, _, _⟩
    · exact free.2.2.2.2 j (by have := hB.size; omega) (notL j hj)
    · exact free.2.2.2.2 j (by omega) (notS j hj1 hj2)
  · rw [← hX', heap_set_ne e29, heap_set_ne e27]; exact b22
  · rw [← hX', heap_set_ne e39, heap_set_ne e37]; exact b32
  · rw [← hX', heap_set_ne (Ne.symm e97)]; exact heap_set1 b72
  · rw [← hX', heap_set_ne (Ne.symm e98), heap_set_ne (Ne.symm e78)]; exact b82
  · rw [← hX']
    have h1 := heap_set1 (v := .int .i64 (((i + d) % (out.length + 1) : Nat) + 1 : Int)) ((heap_set_ne (W := X2) (o := 0) (v := v2) e97).trans b92)
    rw [h1]; simp
  · have h3 : X'.ownsRow w.heap.size 21 1 v2 (out.length + 1) (cn (put out ((i + d) % (out.length + 1)) (n + (i + d) / (out.length + 1)))) := own_of_heap hown2 (fun j hj => by
      rw [← hX', heap_set_ne (m9 j hj), heap_set_ne (m7 j hj)])
    rw [put_len _ hrl]; exact h3
  · intro j hj
    rcases hgr.2 with e | ⟨k, e, hk⟩
    · rw [e] at hj; exact hob j hj
    · rw [e] at hj; injection hj with hj; subst hj; exact .inr (by have := hX1.2.2.2.1; omega)
  · exact hB.trans (free.below hB.size notL)
  · rw [put_len _ hrl]; omega
  · exact hsc2
  · rw [put_len _ hrl, hlen]; simp; omega

/-- a round that refuses -/
theorem dec_refuse {b : List Nat} {pre : List (Nat × Bool)} {x : Nat × Bool} {w X X1 : World} {n1 B2 B3 B8 D H : Nat} (h2 : B2 < n1) (h3 : B3 < n1) (h8 : B8 < n1) (g2 : w.heap.size ≤ B2) (g3 : w.heap.size ≤ B3) (g8 : w.heap.size ≤ B8) (e28 : B2 ≠ B8) (e38 : B3 ≠ B8) (e23 : B2 ≠ B3)
    (hn1 : n1 ≤ D) (hD : D + 2 ≤ H) (hHX : H ≤ X.heap.size) (hins : insL b 128 0 (pre ++ [x]) = none)
    (b2 : X.heap[B2]? = some (.cells #[.slice none 0 0] 22 (0, 0))) (b3 : X.heap[B3]? = some (.cells #[.int .i64 0] 24 (0, 0))) (hB : Below w.heap.size w X) (hX1 : Free (fun j => j = B8) X X1) :
    SameBooks D X ((X1.setCell ⟨B2, 0, none⟩ (.slice none 0 0)).setCell ⟨B3, 0, none⟩ (.int .i64 40)) ∧ DecX b w B2 B3 (pre ++ [x]) ((X1.setCell ⟨B2, 0, none⟩ (.slice none 0 0)).setCell ⟨B3, 0, none⟩ (.int .i64 40)) := by
  have lt : ∀ {j : Nat} {o : Obj}, X.heap[j]? = some o → j < X.heap.size := fun h => (Array.getElem?_eq_some_iff.1 h).1
  have b21 := (hX1.2.2.2.2 B2 (lt b2) e28).trans b2
  have b31 := (hX1.2.2.2.2 B3 (lt b3) e38).trans b3
  have free : Free (fun j => j = B8 ∨ j = B2 ∨ j = B3) X ((X1.setCell ⟨B2, 0, none⟩ (.slice none 0 0)).setCell ⟨B3, 0, none⟩ (.int .i64 40)) :=
    (((Free.refl _ X).trans hX1 (fun j _ e => .inl e)).trans (Free.store _ _ _) (fun j _ e => .inr (.inl e))).trans (Free.store _ _ _) (fun j _ e => .inr (.inr e))
  refine ⟨⟨free.2.2.2.2 D (by omega) (by omega), free.2.2.2.2 (D + 1) (by omega) (by omega)⟩, hins, ?_, ?_, hB.trans (free.below hB.size (fun j hj h => by omega))⟩
  · rw [heap_set_ne e23]; exact heap_set1 b21
  · exact heap_set1 ((heap_set_ne (W := X1) (o := 0) (v := .slice none 0 0) (Ne.symm e23)).trans b31)

theorem decI_ab {b : List Nat} {w : World} {n1 B2 B3 B7 B8 B9 H : Nat} (h2 : B2 < n1) (h3 : B3 < n1) (h7 : B7 < n1) (h8 : B8 < n1) (h9 : B9 < n1) (hw : w.heap.size ≤ n1) : AbAll n1 H (fun pre W => DecI b w n1 B2 B3 B7 B8 B9 H pre W) := by
  rintro pre W W' row ⟨out, n, i, v, hins, b2, b3, b7, b8, b9, hown, hob, hB, hi, hn, hl⟩ hg hr
  have far : ∀ {j : Nat} {o : Obj}, (j < n1 ∨ H ≤ j) → W.heap[j]? = some o → W'.heap[j]? = some o := fun {j o} hj2 h => (hg.block j (Array.getElem?_eq_some_iff.1 h).1 (fun e => by have := hr j e.symm; omega)).trans h
  exact ⟨out, n, i, v, hins, far (.inl h2) b2, far (.inl h3) b3, far (.inl h7) b7, far (.inl h8) b8, far (.inl h9) b9,
    own_of_heap hown (fun j hj => hg.block j (hown.lt j hj).2 (fun e => by have := hr j e.symm; have := hob j hj; omega)), hob, hB.grown hg hB.size (fun j e => by have := hr j e; omega), hi, hn, hl⟩
theorem decX_ab {b : List Nat} {w : World} {n1 B2 B3 H : Nat} (h2 : B2 < n1) (h3 : B3 < n1) (hw : w.heap.size ≤ n1) : AbAll n1 H (fun pre W => DecX b w B2 B3 pre W) := by
  rintro pre W W' row ⟨hins, b2, b3, hB⟩ hg hr
  have far : ∀ {j : Nat} {o : Obj}, j < n1 → W.heap[j]? = some o → W'.heap[j]? = some o := fun {j o} hj2 h => (hg.block j (Array.getElem?_eq_some_iff.1 h).1 (fun e => by have := hr j e.symm; omega)).trans h
  exact ⟨hins, far h2 b2, far h3 b3, hB.grown hg hB.size (fun j e => by have := hr j e; omega)⟩
end Go.Proofs.Ytcdjjodiiaahfaa
