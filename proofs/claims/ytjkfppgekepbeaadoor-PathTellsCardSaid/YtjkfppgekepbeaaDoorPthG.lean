/-
  path: normal, shorter, step; slices.Clone; Shorten.
-/
import Derived.Test.YtjkfppgekepbeaaDoorPthF
import Derived.WalkSpells
namespace Go.Proofs.YtjkfppgekepbeaaDoor.Pth
set_option maxRecDepth 100000
open Go.RowKit Utf Ut Hst

theorem info_tx : (Tryd.prog.info? 9).map (fun i => (i.zero, i.size, i.bytes)) = some (some (.string ByteArray.empty), 1, 16) := by kernel_rfl
theorem sx_snoc (R : List ByteArray) (r : ByteArray) : sx (R ++ [r]) = sx R ++ [.string r] := by simp [sx]
theorem one_sx (xs : List ByteArray) : ∀ u ∈ sx xs, u.oneCell' = true := by
  intro u hu
  obtain ⟨x, _, rfl⟩ := List.mem_map.1 hu
  rfl
theorem grown_of {w w' : World} (h : Below w.heap.size w w') (row : Option Nat) : w.grownBy w' row := ⟨h.os, h.tape, h.output, h.size, fun k hk _ => h.block k hk⟩
/-- the block that a slice of one's own lies in -/
def ownB (A : Option Addr) : Option Nat := (Value.slice A 0 0).ownBlock
theorem own_B (A : Option Addr) (n c : Nat) : (Value.slice A n c).ownBlock = ownB A := by cases A <;> rfl
/-- append(s, y), where the one to be appended has just been laid -/
theorem wpList_appS {ops : Array Oper} {rest : List Oper} {o : Oper} {a : Act} {Q : Exit → Act → World → Prop} (B : Nat) (W : World) (hgd : o.guard = none) (s x : Operand)
    (ho : o.op = .call { callee := .builtin .append, args := #[s, x], argTypes := #[23, 23] })
    (v : Value) (n m : Nat) (xs : List ByteArray) (y : ByteArray) (hs : a.eval s = v) (hown : W.ownsRow B 9 1 v n (sx xs)) (hB : B ≤ W.heap.size)
    (hx : a.eval x = .slice (some ⟨W.heap.size, 0, none⟩) 1 1) (hm : n + 1 = m) (hm2 : m ≤ 1100000)
    (h : ∀ A' c' w', w'.ownsRow B 9 1 (.slice A' m c') m (sx (xs ++ [y])) → Below B W w' → W.grownBy w' v.ownBlock → wpList Tryd.prog ops Q rest (a.put o.dst (.slice A' m c')) w') :
    wpList Tryd.prog ops Q (o :: rest) a (W.alloc (.cells #[.string y] 9)) := by
  subst hm
  obtain ⟨i0, hi, hz0, hz1, hz2⟩ := info_split info_tx
  have hB1 := (Below.refl B W).alloc hB (.cells #[.string y] 9)
  refine wpList_append_row _ hgd s x 23 ho B 9 i0 (.string ByteArray.empty) 1 16 Tryd.underlying23 hi hz0 hz1 hz2 rfl (Nat.zero_lt_succ 0) v n (sx xs) hs (hown.alloc _) _ _ 1 1 [.string y] hx rfl (row_new _ _ 9 [.string y] rfl) (by simp [Value.oneCell']) (by unfold maxLen; omega) (by omega) (by rw [World.size_alloc]; omega) ?_
  intro v' w' hO hg
  have hB2 := hB1.grown hg (by rw [World.size_alloc]; omega) (fun j e => (hown.lt j e).1)
  obtain ⟨A', c', rfl, _, _⟩ := own_form hO
  exact h A' c' w' (by rw [sx_snoc]; exact hO) hB2 ((World.grownBy_alloc W _ _).trans hg)
/-- append(s, t...), where t is a row of texts -/
theorem wpList_appR {ops : Array Oper} {rest : List Oper} {o : Oper} {a : Act} {Q : Exit → Act → World → Prop} (B : Nat) (W : World) (hgd : o.guard = none) (s x : Operand)
    (ho : o.op = .call { callee := .builtin .append, args := #[s, x], argTypes := #[23, 23] })
    (v : Value) (n m : Nat) (xs ys : List ByteArray) (hs : a.eval s = v) (hown : W.ownsRow B 9 1 v n (sx xs)) (hB : B ≤ W.heap.size) (A : Option Addr) (k c : Nat)
    (hx : a.eval x = .slice A k c) (hk : ys.length = k) (hr : Row W W.heap.size A (sx ys)) (hm : n + k = m) (hm2 : m ≤ 1100000)
    (h : ∀ A' c' w', w'.ownsRow B 9 1 (.slice A' m c') m (sx (xs ++ ys)) → Below B W w' → wpList Tryd.prog ops Q rest (a.put o.dst (.slice A' m c')) w') :
    wpList Tryd.prog ops Q (o :: rest) a W := by
  subst hm
  obtain ⟨i0, hi, hz0, hz1, hz2⟩ := info_split info_tx
  refine wpList_append_row _ hgd s x 23 ho B 9 i0 (.string ByteArray.empty) 1 16 Tryd.underlying23 hi hz0 hz1 hz2 rfl (Nat.zero_lt_succ 0) v n (sx xs) hs hown W.heap.size A k c (sx ys) hx (by simp [hk]) hr (one_sx ys) (by unfold maxLen; omega) (by omega) hB ?_
  intro v' w' hO hg
  have hB2 := (Below.refl B W).grown hg hB (fun j e => (hown.lt j e).1)
  obtain ⟨A', c', rfl, _, _⟩ := own_form hO
  exact h A' c' w' (by rw [show sx (xs ++ ys) = sx xs ++ sx ys from List.map_append]; exact hO) hB2
theorem own_take {w : World} {B : Nat} {e : TypeId} {A : Option Addr} {n c : Nat} {xs : List Value} (h : w.ownsRow B e 1 (.slice A n c) n xs) {k : Nat} (hk : k ≤ n) : w.ownsRow B e 1 (.slice A k c) k (xs.take k) := by
  refine ⟨by rw [List.length_take, h.1]; omega, ?_⟩
  rcases h.2 with ⟨hv, h0⟩ | ⟨g, cap, cur, hv, hg, hb, hnc, hcm, hsz, ht⟩
  · injection hv with h1 h2 h3
    subst h1 h3
    obtain rfl : k = 0 := by omega
    exact .inl ⟨rfl, rfl⟩
  · injection hv with h1 h2 h3
    subst h1 h3
    refine .inr ⟨g, c, cur, rfl, hg, hb, by omega, hcm, hsz, ?_⟩
    rw [← ht, List.take_take]
    congr 1
    omega
def fileL : List UInt8 := [102, 105, 108, 101]
def fil (s : ByteArray) : Bool := decide (dl s = fileL)
theorem fil_beq (s : ByteArray) : (s.toList == ([102, 105, 108, 101] : List UInt8)) = fil s := by
  rw [ByteArray.toList_eq]
  show (dl s == _) = _
  rw [Bool.eq_iff_iff, beq_iff_eq]
  unfold fil fileL
  rw [decide_eq_true_iff]
theorem shr_take (fl : Bool) (l : List ByteArray) : shr fl l = l.take (shr fl l).length := by
  obtain ⟨t, ht⟩ := shr_pre fl l
  conv => rhs; arg 2; rw [ht]
  rw [List.take_left']
  rfl
theorem shr_le (fl : Bool) (l : List ByteArray) : (shr fl l).length ≤ l.length := by
  obtain ⟨t, ht⟩ := shr_pre fl l
  have := congrArg List.length ht
  rw [List.length_append] at this
  omega
theorem sole_one {l : List ByteArray} (h : l.length ≠ 1) : soleD l = false := by
  match l, h with
  | [], _ => rfl
  | [_], h => exact absurd rfl h
  | _ :: _ :: _, _ => rfl
set_option maxHeartbeats 1000000 in
theorem shorter_any (s : ByteArray) (l : List ByteArray) (A : Option Addr) (n c : Nat) (w : World) (hn : l.length = n) (hc : n ≤ c) (hm : n ≤ 1000000) (hr : Row w w.heap.size A (sx l)) :
    Calls Tryd.prog 33 #[.string s, .slice A n c] w (fun e w' => e = .returned (.slice A (shr (fil s) l).length c) ∧ w = w') := by
  have hf := fil_beq s
  obtain ⟨f, hff⟩ : ∃ f, fil s = f := ⟨_, rfl⟩
  rw [hff] at hf ⊢
  clear hff
  rcases Nat.eq_zero_or_pos n with h0 | h0
  · subst h0
    have hl : l = [] := List.eq_nil_of_length_eq_zero hn
    have HE : Hid ((shr f l).length = 0) := Lib.hid (by rw [hl]; rfl)
    rw [HE.out]
    clear HE hl hr hn
    go_enter Tryd.func33, Tryd.ntmps33
    go_wp2_with fail
    go_ret
    exact ⟨rfl, rfl⟩
  · have hne : l.isEmpty = false := by cases l with
      | nil => simp at hn; omega
      | cons => rfl
    have hz0 : ((n : Int) == 0) = false := by rw [beq_eq_false_iff_ne]; omega
    have hcut : (f && soleD l) = false → (shr f l).length = n - 1 := fun h => by
      unfold shr
      rw [hne, h, if_neg (by decide), List.length_dropLast, hn]
    obtain ⟨b, o, rfl, hb, hcc⟩ := hr.at_ (by simp; omega)
    have hn1 : 0 ≤ (n : Int) - 1 ∧ (n : Int) - 1 ≤ (n : Int) := by omega
    have ht : ((n : Int) - 1).toNat = n - 1 := by omega
    have hcz : ¬ c = 0 := by omega
    cases f with
    | false =>
      have HE : Hid ((shr false l).length = n - 1) := Lib.hid (hcut rfl)
      rw [HE.out]
      clear HE hr hn hcut hcc
      go_enter Tryd.func33, Tryd.ntmps33
      go_wp2_with fail
      go_ret
      exact ⟨rfl, rfl⟩
    | true =>
      by_cases h1 : n = 1
      · subst h1
        obtain ⟨x, rfl⟩ := List.length_eq_one_iff.1 hn
        · clear hn hcz ht hn1 hz0
          have c0 : w.cell? ⟨b, o, none⟩ = some (.string x) := hcc 0 (by simp)
          have HN := Lib.hid (fun W => normalized_any x W)
          have hsh : shr true [x] = if nmd x = true then [x] else [] := by
            unfold shr soleD
            simp
          have HS := Lib.hid hsh
          obtain ⟨q, hq⟩ : ∃ q, nmd x = q := ⟨_, rfl⟩
          rw [hq] at HN HS
          clear hsh hq hr hcut hcc hne h0
          cases q with
          | true =>
            have HE : Hid ((shr true [x]).length = 1) := Lib.hid (by rw [HS.out]; rfl)
            rw [HE.out]
            go_enter Tryd.func33, Tryd.ntmps33
            go_wp2_with (first | (go_at_call 52; refine (HN.out _).mono ?_; rintro e w1 ⟨rfl, rfl⟩) | fail)
            go_ret
            exact ⟨rfl, rfl⟩
          | false =>
            have HE : Hid ((shr true [x]).length = 0) := Lib.hid (by rw [HS.out]; rfl)
            rw [HE.out]
            go_enter Tryd.func33, Tryd.ntmps33
            go_wp2_with (first | (go_at_call 52; refine (HN.out _).mono ?_; rintro e w1 ⟨rfl, rfl⟩) | fail)
            go_ret
            exact ⟨rfl, rfl⟩
      · have HE : Hid ((shr true l).length = n - 1) := Lib.hid (hcut (by rw [sole_one (by omega)]; rfl))
        have hz1 : ((n : Int) == 1) = false := by rw [beq_eq_false_iff_ne]; omega
        rw [HE.out]
        clear HE hr hn hcut hcc
        go_enter Tryd.func33, Tryd.ntmps33
        go_wp2_with fail
        go_ret
        exact ⟨rfl, rfl⟩
/-- a row of texts of the call's own -/
def MadeTexts (l : List ByteArray) (w : World) (e : Ending) (w' : World) : Prop := ∃ A c, e = .returned (.slice A l.length c) ∧ w'.ownsRow w.heap.size 9 1 (.slice A l.length c) l.length (sx l) ∧ Below w.heap.size w w'
set_option maxHeartbeats 1000000 in
theorem Clone_any (l : List ByteArray) (A : Option Addr) (n c : Nat) (w : World) (hn : l.length = n) (hm : n ≤ 1000000) (hr : Row w w.heap.size A (sx l)) : Calls Tryd.prog 32 #[.slice A n c] w (MadeTexts l w) := by
  unfold MadeTexts
  rw [hn]
  have hq : ∀ W : World, (binOp .eql 23 (.slice A n c) (.slice none 0 0)).run Tryd.prog W = .ok (.bool A.isNone) W := fun W => Lib.run_eql_slice_nil W _ _ A n c 0 0 Tryd.underlying23
  cases A with
  | none =>
    have hl : l = [] := by
      rcases hr with h | ⟨b, o, h, _⟩
      · simpa [sx] using h
      · cases h
    subst hl
    have h0 : n = 0 := hn.symm
    subst h0
    clear hr hn
    go_enter Tryd.func32, Tryd.ntmps32
    go_wp2_with fail
    go_ret
    exact ⟨none, 0, rfl, World.ownsRow_nil _ _ _ _, Below.refl _ _⟩
  | some a =>
    have HN := Lib.hid hn
    have hB := upA w (.cells #[] 9)
    have hown : (w.alloc (.cells #[] 9)).ownsRow w.heap.size 9 1 (.slice (some ⟨w.heap.size, 0, none⟩) 0 0) 0 (sx []) := ⟨rfl, .inr ⟨w.heap.size, 0, #[], rfl, Nat.le_refl _, World.alloc_heap_new w _, Nat.le_refl _, by decide, rfl, rfl⟩⟩
    have hr1 := (hr.below hB).mono hB.size
    have hs1 := hB.size
    obtain ⟨w1, hw1⟩ : ∃ w1, w.alloc (.cells #[] 9) = w1 := ⟨_, rfl⟩
    rw [hw1] at hB hown hr1 hs1
    have HO := Lib.hid hown
    have HR := Lib.hid hr1
    clear hn hr hown hr1
    go_enter Tryd.func32, Tryd.ntmps32
    go_wp2_with (first | (at_builtin; go_loud (refine wpList_appR w.heap.size _ rfl _ _ rfl (.slice (some ⟨w.heap.size, 0, none⟩) 0 0) 0 n [] l rfl HO.out hs1 (some a) n c rfl HN.out HR.out (by omega) (by omega) ?_; intro A' c' w2 hO2 hB2)) | fail)
    go_ret
    exact ⟨A', c', rfl, hO2, hB.trans hB2⟩
end Go.Proofs.YtjkfppgekepbeaaDoor.Pth
