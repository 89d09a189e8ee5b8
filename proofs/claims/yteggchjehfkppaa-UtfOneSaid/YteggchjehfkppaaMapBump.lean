/-
  m[k]++ on a map of the call's own whose keys are structs: the entry, then the store at its stamp.
-/
import Derived.Maps.OwnOps
import Derived.Maps.Views
import Derived.Maps.OwnSet
import Derived.WideKeyEntry
import Derived.DeepKeys4
import Derived.Test.YteggchjehfkppaaAwake1
namespace Go.Proofs.Yteggchjehfkppaa
open Go.RowKit Go.Maps Utf

theorem setBlock_twice (w : World) (b : Nat) (x y : Obj) : ChangeMaps.setBlock (ChangeMaps.setBlock w b x) b y = ChangeMaps.setBlock w b y := by
  simp [ChangeMaps.setBlock]

theorem own_bump {H : Type} {P : Program} {k t e : TypeId} {R : Value → Option (DataW H × List MemPlace)} {w : World} {b n : Nat} {D : DataW H} (h : w.ownsMap P k R b n D) (K : WideMaps.KeyLaw P k)
    (ht : P.underlying t = some (.map k e)) {z : Value} (hz : ∀ u : World, (zeroValue e).run P u = .ok z u) (hn : n < maxLen) {key : Value} {kl : Lit} (hkey : keyOf P k key = some kl) :
    ∃ v0 st w1, (Instr.mapEntry t (.map (some b)) key).run P w = .ok (.tuple #[v0, .int .i64 ((st : Nat) : Int)]) w1 ∧
      ∀ val d ps, R val = some (d, ps) → ∃ w2, (Instr.entryStore t (.map (some b)) (.int .i64 ((st : Nat) : Int)) val).run P w1 = .ok () w2 ∧ w2.ownsMap P k R b (n + 1) (D.put kl d) ∧ w.grownBy w2 (some b) := by
  have h' := h
  obtain ⟨es, clock, hb, F, hs, hD⟩ := h'
  obtain ⟨v0, st, es1, clock1, h1, _, h2⟩ := WideElems.entry_then_store K ht hz hb F hkey
  refine ⟨v0, st, _, h1, fun val d ps hv => ?_⟩
  obtain ⟨es', clock', h3, h4⟩ := h2 (ChangeMaps.setBlock w b (.map es1 clock1)) val (ChangeMaps.heap_setBlock_same hb _)
  obtain ⟨w', h5, h6, h7⟩ := h.update (Keyed.of_law K) ht hn hkey hv
  rw [h4] at h5
  injection h5 with _ e5
  subst e5
  exact ⟨_, h3, by rw [setBlock_twice]; exact h6, by rw [setBlock_twice]; exact h7⟩

/-- m[k]++ in whatever order its look-up and its entry come -/
theorem own_bump_int {H : Type} {P : Program} {k t e : TypeId} {w : World} {b n : Nat} {D : DataW H} (h : w.ownsMap P k (plainElem P e) b n D) (K : WideMaps.KeyLaw P k)
    (ht : P.underlying t = some (.map k e)) (he : P.underlying e = some (.int .i64)) (hz : ∀ u : World, (zeroValue e).run P u = .ok (.int .i64 0) u) (hn : n + 1 < maxLen) {key : Value} {kl : Lit} (hkey : keyOf P k key = some kl) :
    ∃ c v0 st w1, (Instr.lookup t (.map (some b)) key false).run P w = .ok (.int .i64 c) w ∧ D.atKey kl (.lit (.int .i64 0)) = .lit (.int .i64 c) ∧ (Lit.int .i64 c).wf = true ∧
      (Instr.mapEntry t (.map (some b)) key).run P w = .ok (.tuple #[v0, .int .i64 ((st : Nat) : Int)]) w1 ∧ (Instr.lookup t (.map (some b)) key false).run P w1 = .ok (.int .i64 c) w1 ∧
      ∀ m : Int, (Lit.int .i64 m).wf = true → ∃ w2, (Instr.entryStore t (.map (some b)) (.int .i64 ((st : Nat) : Int)) (.int .i64 m)).run P w1 = .ok () w2 ∧ w2.ownsMap P k (plainElem P e) b (n + 1) (D.put kl (.lit (.int .i64 m))) ∧ w.grownBy w2 (some b) := by
  obtain ⟨c, hrun, hat, hwc⟩ := h.lookup_int (Keyed.of_law K) ht he (hz w) hkey
  obtain ⟨v0, st, w1, h1, h2⟩ := own_bump h K ht hz (by omega) hkey
  refine ⟨c, v0, st, w1, hrun, hat, hwc, h1, ?_, fun m hm => h2 _ _ _ (plainElem_int he hm)⟩
  have h' := h
  obtain ⟨es, clock, hb, F, hs, hD⟩ := h'
  rcases K.find w hkey es.toList F.keys with ⟨f1, f2⟩ | ⟨j, e0, f1, f2, f3⟩
  · have hm : (Instr.mapEntry t (.map (some b)) key).run P w = .ok (.tuple #[.int .i64 0, goInt clock]) (ChangeMaps.setBlock w b (.map (es.push ⟨key, .int .i64 0, clock⟩) (clock + 1))) := by
      simp [Instr.mapEntry, run_underlying ht, MapKept.run_getObj_map hb, K.check w false hkey, f1, hz, MapKept.run_setObj_map _ hb, Result.andThen, ChangeMaps.setBlock]
    have hu : (Instr.mapUpdate t (.map (some b)) key (.int .i64 0)).run P w = .ok () (ChangeMaps.setBlock w b (.map (es.push ⟨key, .int .i64 0, clock⟩) (clock + 1))) := by
      simp [Instr.mapUpdate, run_underlying ht, MapKept.run_getObj_map hb, K.check w false hkey, f1, MapKept.run_setObj_map _ hb, Result.andThen, ChangeMaps.setBlock]
    obtain ⟨w', u1, u2, _⟩ := h.update (Keyed.of_law K) ht (by omega) hkey (plainElem_int (a := 0) he (by decide))
    rw [hu] at u1
    have e1 := (Result.ok.inj u1).2
    rw [hm] at h1
    have e2 := (Result.ok.inj h1).2
    have e3 : w' = w1 := e1.symm.trans e2
    rw [e3] at u2
    obtain ⟨c1, r1, a1, _⟩ := u2.lookup_int (Keyed.of_law K) ht he (hz w1) hkey
    rw [atKey_put_same h.isMap ((Keyed.of_law K).key hkey)] at a1
    rcases Maps.fit_look false (Keyed.of_law K) ht (hz w) hb F hkey with ⟨l1, l2, l3⟩ | ⟨e0, y, l1, l2, _⟩
    · rw [l1] at hrun
      simp only [Bool.false_eq_true, if_false] at hrun
      have e4 := (Result.ok.inj hrun).1
      rw [← e4, r1]
      have e6 := (Lit.int.inj (DataW.lit.inj a1)).2
      rw [← e6]
    · exact absurd l2 (f2 e0 l1)
  · have hj : es[j]? = some e0 := by simpa using f2
    have hsame : es.modify j (fun e => { e with key := key }) = es := by
      apply Array.ext'
      rw [Array.toList_modify, ChangeMaps.modify_eq_set _ _ _ _ f2]
      have : ({ e0 with key := key } : MapEntry) = e0 := by rw [← f3]
      rw [this]
      exact WideElems.set_self _ _ _ f2
    have hm : (Instr.mapEntry t (.map (some b)) key).run P w = .ok (.tuple #[e0.val, goInt e0.born]) (ChangeMaps.setBlock w b (.map es clock)) := by
      simp [Instr.mapEntry, run_underlying ht, MapKept.run_getObj_map hb, K.check w false hkey, f1, hj, f3, K.stays w hkey, hsame, MapKept.run_setObj_map _ hb, Result.andThen, ChangeMaps.setBlock]
    rw [hm] at h1
    have e2 := (Result.ok.inj h1).2
    have e3 : ChangeMaps.setBlock w b (.map es clock) = w := by
      obtain ⟨es', clock', es'', clock'', g1, g2⟩ := h.turned_refl
      unfold ChangeMaps.setBlock at g2 ⊢
      have e : w.heap.setIfInBounds b (.map es clock) = w.heap := by
        apply Array.ext_getElem?
        intro i
        by_cases hi : i = b
        · subst hi
          rw [Array.getElem?_setIfInBounds_self, hb]
          split
          · rfl
          · exact absurd (Array.getElem?_eq_some_iff.1 hb).1 (by assumption)
        · rw [Array.getElem?_setIfInBounds_ne (Ne.symm hi)]
      rw [e]
    rw [e3] at e2
    rw [← e2]
    exact hrun

theorem lawC : WideMaps.KeyLaw Try.prog 37 := deep_law_laid (by kernel_rfl) (m := 3) (by omega) (of_decide_eq_true (by kernel_rfl)) (by kernel_rfl) (by kernel_rfl)
theorem zeroI (w : World) : (zeroValue 3).run Try.prog w = .ok (.int .i64 0) w := by kernel_rfl

theorem cellsC : Try.prog.cellsOf 37 = 3 := by kernel_rfl
theorem cellsR : Try.prog.cellsOf 21 = 1 := by kernel_rfl
theorem cellsI : Try.prog.cellsOf 3 = 1 := by kernel_rfl
theorem keyTyC : Try.prog.keyType 37 = true := by kernel_rfl

/-- the key that a code is told as -/
def kc (r f t : Int) : Lit := .string (keyBytes [.int .i32 r, .int .i64 f, .int .i64 t])
theorem key_any {P : Program} {k tR tI : TypeId} {f0 f1 f2 : Field} (hu : P.underlying k = some (.struct #[f0, f1, f2])) (h0 : f0.name = "R" ∧ f0.type = tR ∧ f0.offset = 0) (h1 : f1.name = "From" ∧ f1.type = tI ∧ f1.offset = 1) (h2 : f2.name = "To" ∧ f2.type = tI ∧ f2.offset = 2)
    (hR : P.underlying tR = some (.int .i32)) (hI : P.underlying tI = some (.int .i64)) (hk : P.keyType k = true)
    (hc : P.cellsOf k = 3) (hcR : P.cellsOf tR = 1) (hcI : P.cellsOf tI = 1) (hp : 0 < P.types.size) (r f t : Int) (hr : (Lit.int .i32 r).wf = true) (hf : (Lit.int .i64 f).wf = true) (ht : (Lit.int .i64 t).wf = true) :
    keyOf P k (.agg #[.int .i32 r, .int .i64 f, .int .i64 t]) = some (kc r f t) := by
  obtain ⟨m, hm⟩ : ∃ m, P.types.size = m + 1 := ⟨P.types.size - 1, by omega⟩
  obtain ⟨n0, t0, o0⟩ := h0
  obtain ⟨n1, t1, o1⟩ := h1
  obtain ⟨n2, t2, o2⟩ := h2
  simp [keyOf, hu, hk, Value.formed, hc, hm, Program.keyLits, Value.cells, n0, t0, o0, n1, t1, o1, n2, t2, o2, hcR, hcI, hR, hI, hr, hf, ht, kc]
theorem key_code (r f t : Int) (hr : (Lit.int .i32 r).wf = true) (hf : (Lit.int .i64 f).wf = true) (ht : (Lit.int .i64 t).wf = true) :
    keyOf Try.prog 37 (.agg #[.int .i32 r, .int .i64 f, .int .i64 t]) = some (kc r f t) :=
  key_any Try.underlying37 ⟨rfl, rfl, rfl⟩ ⟨rfl, rfl, rfl⟩ ⟨rfl, rfl, rfl⟩ Try.underlying21 Try.underlying3 keyTyC cellsC cellsR cellsI (of_decide_eq_true (by kernel_rfl)) r f t hr hf ht

end Go.Proofs.Yteggchjehfkppaa
