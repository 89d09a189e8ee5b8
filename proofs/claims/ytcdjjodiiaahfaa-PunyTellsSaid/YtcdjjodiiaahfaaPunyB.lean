/-
  Contracts of puny.addDigits, puny.number.
-/
import Derived.Test.YtcdjjodiiaahfaaPunyA
import Derived.IntWalk
import Derived.Deep.QuietTactic
import Derived.BigQuiet
import Derived.Maps.Range
import Derived.Test.YtcdjjodiiaahfaaAppendRow
namespace Go.Proofs.Ytcdjjodiiaahfaa
open Go.RowKit Puny

/-- a digit's sign, as a number -/
def sgn (d : Nat) : Int := ((sign d).toNat : Int)

def alpha : ByteArray := { data := #[97, 98, 99, 100, 101, 102, 103, 104, 105, 106, 107, 108, 109, 110, 111, 112, 113, 114, 115, 116, 117, 118, 119, 120, 121, 122, 48, 49, 50, 51, 52, 53, 54, 55, 56, 57] }
theorem alpha_at {d : Nat} (h : d < 36) : alpha.data[d]? = some (sign d) := by
  have : ∀ d : Fin 36, alpha.data[d.1]? = some (sign d.1) := by decide +kernel
  exact this ⟨d, h⟩

theorem idx {d : Nat} (hd : d < 36) (b : ByteArray) (hb : b = alpha) (i : Nat) (hi : i = d) (h : i < b.size) : ((b[i]'h).toNat : Int) = sgn d := by
  subst hb hi
  unfold sgn
  have := alpha_at hd
  rw [Array.getElem?_eq_some_iff] at this
  obtain ⟨_, h2⟩ := this
  rw [← h2]
  rfl

/-- a block of two cells that lies as it was laid -/
theorem blk2 {w : World} {B : Nat} {a b : Value} {t : TypeId} (h : w.heap[B]? = some (.cells #[a, b] t (0, 0))) :
    w.cell? ⟨B, 0, none⟩ = some a ∧ w.cell? ⟨B, 1, none⟩ = some b ∧ w.frozen? ⟨B, 0, none⟩ = false ∧ w.frozen? ⟨B, 1, none⟩ = false := by
  refine ⟨?_, ?_, ?_, ?_⟩
  all_goals simp [World.cell?, World.frozen?, h]

/-- the world has grown from w to w', where of what lay in w only v0's own block may have turned; v is v0 that has grown -/
def Grew (w : World) (v0 : Value) (w' : World) (v : Value) : Prop :=
  w.grownBy w' v0.ownBlock ∧ (v.ownBlock = v0.ownBlock ∨ ∃ j, v.ownBlock = some j ∧ w.heap.size ≤ j)
theorem Grew.refl (w : World) (v : Value) : Grew w v w v := ⟨World.grownBy.refl _ _, .inl rfl⟩
theorem Grew.step {w w1 w2 : World} {v0 v v' : Value} (h : Grew w v0 w1 v) (k : w1.grownBy w2 v.ownBlock) (hv : v'.ownBlock = v.ownBlock ∨ ∃ j, v'.ownBlock = some j ∧ w1.heap.size ≤ j) : Grew w v0 w2 v' := by
  refine ⟨h.1.andThen k fun j hj => ?_, ?_⟩
  · rcases h.2 with e | ⟨i, e, hi⟩
    · exact .inr (by rw [← e]; exact hj)
    · rw [e] at hj; injection hj with hj; subst hj; exact .inl hi
  · rcases hv with e | ⟨i, e, hi⟩
    · rw [e]; exact h.2
    · exact .inr ⟨i, e, Nat.le_trans h.1.size hi⟩
theorem Grew.below {w w1 w2 : World} {v0 v : Value} (h : Grew w v0 w1 v) (hB : Below w1.heap.size w1 w2) : Grew w v0 w2 v :=
  h.step (World.grownBy.but ⟨hB.os, hB.tape, hB.output, hB.size, fun j hj _ => hB.block j hj⟩ _) (.inl rfl)
theorem Grew.alloc {w w1 : World} {v0 v : Value} (h : Grew w v0 w1 v) (o : Obj) : Grew w v0 (w1.alloc o) v := h.step (World.grownBy_alloc w1 o _) (.inl rfl)
theorem Grew.append {w w1 w2 : World} {v0 v v' : Value} {o : Obj} (h : Grew w v0 w1 v) (k : (w1.alloc o).grownBy w2 v.ownBlock) (hv : v'.ownBlock = v.ownBlock ∨ v'.ownBlock = some (w1.alloc o).heap.size) : Grew w v0 w2 v' :=
  (h.alloc o).step k (hv.imp_right fun e => ⟨_, e, Nat.le_refl _⟩)
theorem Grew.from_alloc {w w' : World} {v0 v : Value} {o : Obj} (h : Grew (w.alloc o) v0 w' v) : Grew w v0 w' v :=
  ⟨(World.grownBy_alloc w o _).trans h.1, h.2.imp_right fun ⟨j, e, hj⟩ => ⟨j, e, by simp at hj; omega⟩⟩

/-- what 'addDigits' does, behind a name -/
def Added (base : Nat) (v : Value) (n : Nat) (xs : List Value) (news : List Int) (w : World) (e : Ending) (w' : World) : Prop :=
  ∃ v', e = .returned v' ∧ w'.ownsRow base 5 1 v' (n + news.length) (xs ++ cl .u8 news) ∧ Grew w v w' v'
theorem added_mk {base : Nat} {v : Value} {n m : Nat} {xs : List Value} {L done : List Int} {x y : Int} {w w2 : World} {v' : Value} (hL : L = done ++ [x]) (hx : y = x) (hm : n + done.length + 1 = m)
    (hown : w2.ownsRow base 5 1 v' m (xs ++ cl .u8 done ++ [.int .u8 y])) (hg : Grew w v w2 v') : Added base v n xs L w (.returned v') w2 := by
  subst hL hx hm
  exact ⟨v', rfl, by simpa [Nat.add_assoc] using hown, hg⟩

theorem own_snoc {base n m : Nat} {xs : List Value} {done : List Int} {x y : Int} {w2 : World} {v' : Value} (hx : y = x) (hm : n + done.length + 1 = m)
    (hown : w2.ownsRow base 5 1 v' m (xs ++ cl .u8 done ++ [.int .u8 y])) : w2.ownsRow base 5 1 v' (n + (done ++ [x]).length) (xs ++ cl .u8 (done ++ [x])) := by
  subst hx hm
  simpa [Nat.add_assoc] using hown

def AddRel (base : Nat) (v0 : Value) (n : Nat) (xs : List Value) (lead d0 : Nat) (w : World) (s0 s1 s7 : Value) (wr : World) : Prop :=
  ∃ (k d : Nat) (done : List Int), s1 = .int .i64 d ∧ s7 = .int .i64 k ∧ d ≤ d0 ∧ k + d ≤ 1 + d0 ∧ 1 ≤ k ∧ (digs lead 1 d0).map sgn = done ++ (digs lead k d).map sgn ∧ done.length + d ≤ d0 ∧
    wr.ownsRow base 5 1 s0 (n + done.length) (xs ++ cl .u8 done) ∧ Grew w v0 wr s0

set_option maxRecDepth 100000 in
set_option maxHeartbeats 1000000 in
theorem addDigits_any (base : Nat) (v : Value) (n : Nat) (xs : List Value) (d0 lead part : Nat) (w : World) (hown : w.ownsRow base 5 1 v n xs) (hn : n ≤ 100000000) (hb : base ≤ w.heap.size)
    (hl : lead ≤ 1000000000000) (hd : d0 ≤ 100000000000) :
    Calls Try.prog 23 #[v, .int .i64 d0, .agg #[.int .i64 lead, .int .i64 part]] w (Added base v n xs ((digs lead 1 d0).map sgn) w) := by
  obtain ⟨i0, hi, hz0, hz1, hz2⟩ := info_parts info_u8
  go_enter Try.func23, Try.ntmps23
  go_wp2
  go_loopw [0, 1, 7] (fun s0 s1 s7 wr => AddRel base v n xs lead d0 (w.alloc (.cells #[.int .i64 lead, .int .i64 part] 44)) s0 s1 s7 wr) (fun _ s1 _ _ => (intOf s1).toNat)
  case atStart => exact ⟨1, d0, [], rfl, rfl, Nat.le_refl _, by omega, Nat.le_refl _, rfl, by simp, by simpa using hown.alloc _, Grew.refl _ _⟩
  case round =>
    obtain ⟨k, d, done, rfl, rfl, h1, h2, h3, hdg, hdn, hown1, hg⟩ := hrel
    have hbx : wr.heap[w.heap.size]? = some (.cells #[.int .i64 lead, .int .i64 part] 44 (0, 0)) := by
      rw [hg.1.block w.heap.size (by simp) (fun e => by have := (hown.lt _ e.symm).2; omega)]
      exact World.alloc_heap_new w _
    obtain ⟨c0, c1, _, _⟩ := blk2 hbx
    have hszr := hg.1.size
    rw [World.size_alloc] at hszr
    have ht1 := thr_lo lead k
    have ht2 := thr_hi lead k
    have HDG := Lib.hid hdg
    clear hdg hbx
    obtain ⟨t, ht⟩ : ∃ t, thr lead k = t := ⟨_, rfl⟩
    have ct : ∀ u, Calls Try.prog 45 #[.agg #[.int .i64 lead, .int .i64 part], .int .i64 k] u fun e w' => e = .returned (.int .i64 (t : Nat)) ∧ Below u.heap.size u w' := fun u => by
      rw [← ht]; exact threshold_any lead part k u (by omega) (by omega)
    rw [ht] at ht1 ht2
    by_cases hlt : d < t
    · have HDL := Lib.hid (show digs lead k d = [d] from digs_last (by rw [ht]; exact hlt))
      clear ht
      go_wp2_with (first
        | (go_at_call 45; refine (ct _).mono ?_; rintro e w1 ⟨rfl, hB1⟩)
        | (at_builtin; refine wpList_append_own_at _ rfl _ _ 34 rfl base 5 i0 (.int .u8 0) 1 1 Try.underlying34 hi hz0 hz1 hz2 rfl (by decide) _ _ _ rfl ((own_below hown1 hB1).alloc _) ⟨w1.heap.size, 0, none⟩ 1 1 _ rfl (by rfl) (news_new _ _ _ _ rfl) (by simp [Value.oneCell']) (by unfold maxLen; omega) (by omega) (by have := hB1.size; simp; omega) ?_; intro v' w2 hown2 hgrow2 _ hblk2)
        | fail)
      go_ret
      exact added_mk (x := sgn d) (by rw [HDG.out, HDL.out]; rfl) (idx (by omega) _ rfl _ (by simp) _) rfl hown2 (((hg.below hB1).append hgrow2 hblk2).from_alloc)
    · have hm := Nat.mod_lt (d - t) (show 0 < 36 - t by omega)
      have hq := digs_dec hlt ht1
      have hq2 := Nat.div_le_self (d - t) (36 - t)
      have HDL := Lib.hid (show digs lead k d = (t + (d - t) % (36 - t)) :: digs lead (k + 1) ((d - t) / (36 - t)) by have := digs_more (lead := lead) (k := k) (d := d) (by rw [ht]; exact hlt); rw [ht] at this; exact this)
      have hdt : (d : Int) - t = ((d - t : Nat) : Int) := by omega
      have htt : (36 : Int) - t = ((36 - t : Nat) : Int) := by omega
      have hm1 : ((d : Int) - t) % ((36 : Int) - t) = (((d - t) % (36 - t) : Nat) : Int) := by rw [hdt, htt]; simp
      have hq1 : ((d : Int) - t) / ((36 : Int) - t) = (((d - t) / (36 - t) : Nat) : Int) := by rw [hdt, htt]; simp
      obtain ⟨m, hmm⟩ : ∃ m, (d - t) % (36 - t) = m := ⟨_, rfl⟩
      obtain ⟨q, hqq⟩ : ∃ q, (d - t) / (36 - t) = q := ⟨_, rfl⟩
      rw [hmm] at hm hm1
      rw [hqq] at hq hq2 hq1
      rw [hmm, hqq] at HDL
      clear ht hmm hqq hdt htt
      go_wp2_with (first
        | (go_at_call 45; refine (ct _).mono ?_; rintro e w1 ⟨rfl, hB1⟩)
        | (at_builtin; refine wpList_append_own_at _ rfl _ _ 34 rfl base 5 i0 (.int .u8 0) 1 1 Try.underlying34 hi hz0 hz1 hz2 rfl (by decide) _ _ _ rfl ((own_below hown1 hB1).alloc _) ⟨w1.heap.size, 0, none⟩ 1 1 _ rfl (by rfl) (news_new _ _ _ _ rfl) (by simp [Value.oneCell']) (by unfold maxLen; omega) (by omega) (by have := hB1.size; simp; omega) ?_; intro v' w2 hown2 hgrow2 _ hblk2)
        | fail)
      go_roundw
      case rel =>
        refine ⟨k + 1, q, done ++ [sgn (t + m)], by go_num, by go_num, by omega, by omega, by omega, by rw [HDG.out, HDL.out]; simp, by simp; omega, ?_, (hg.below hB1).append hgrow2 hblk2⟩
        exact own_snoc (idx (by omega) _ rfl _ (by simp <;> omega) _) rfl hown2
      case measure => simp [intOf]; omega
end Go.Proofs.Ytcdjjodiiaahfaa
