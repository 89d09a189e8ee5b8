/-
  What a law's walk is told of a slice of texts that came in, and of the listed variables; the wrap.
-/
import Derived.Test.YtjkfppgekepbeaaDoorPthF
import Derived.Test.YtjkfppgekepbeaaDoorRows
import Derived.PinnedBridge
import Derived.Lib.LaidCase
import Derived.LaidLaws
import Derived.Shelf.Vars
import Derived.HandedShaped
import Derived.Test.YtjkfppgekepbeaaDoorFrame
import Derived.SliceStrings
import Derived.Lib.LaidU8
namespace Go.Proofs.YtjkfppgekepbeaaDoor.Pth
set_option maxRecDepth 100000
open Go.ChangeShapes Go.WideShapes Go.ChangeAt Go.RowKit

/-- the slice (a, len, cap) holds the texts ys -/
def InTexts (w : World) (a : Option Addr) (len cap : Nat) (ys : List ByteArray) : Prop :=
  ys.length = len ∧ len ≤ cap ∧ cap ≤ maxLen ∧ Row w w.heap.size a (sx ys) ∧ ∀ s ∈ ys, s.size ≤ maxLen
theorem add_lit' (b o i : Nat) : (⟨b, o, none⟩ : Addr).add i = ⟨b, o + i, none⟩ := by simp [Addr.add]
theorem in_texts {H : Type} {enc : TypeId × Value → H} {P : Program} {W : World} {base : Nat} {spare : Nat → Bool} {held : Bool} {t e : TypeId} {a : Option Addr} {len cap : Nat} {d : DataW H} {p : List MemPlace}
    (ht : P.underlying t = some (.slice e)) (he : P.underlying e = some .string) (hC : P.cellsOf e = 1) (h : DataW.Trod enc P W base spare held t (.slice a len cap) d p) :
    ∃ ys, InTexts W a len cap ys := by
  obtain ⟨fuel, hf⟩ := h
  rcases open_strings ht he hC hf with ⟨hcs, _⟩ | ⟨x, l, c, zs, hcs, _, hl, hm, hz, _, hcell, hwz⟩
  · simp [Value.cells] at hcs
    obtain ⟨rfl, rfl, rfl⟩ := hcs
    exact ⟨[], rfl, Nat.le_refl _, Nat.zero_le _, .inl rfl, by simp⟩
  · simp [Value.cells] at hcs
    obtain ⟨rfl, rfl, rfl⟩ := hcs
    refine ⟨zs.take len, ?_, hl, hm, ?_, fun n hn => hwz n (List.mem_of_mem_take hn)⟩
    · rw [List.length_take]
      split at hz <;> omega
    · rcases Nat.eq_zero_or_pos len with h0 | h0
      · exact .inl (by rw [h0]; rfl)
      · have hlz : len ≤ zs.length := by split at hz <;> omega
        obtain ⟨b, off, rg⟩ := x
        have h00 := hcell 0 (by omega)
        obtain rfl : rg = none := Go.Proofs.cell_spot (by simpa [Addr.add] using h00)
        refine .inr ⟨b, off, rfl, lt_of_cell (v := .string (zs.getD 0 ByteArray.empty)) (by simpa [Addr.add] using h00), fun j hj => ?_⟩
        have hj' : j < len := by simpa [Nat.min_eq_left hlz] using hj
        have := hcell j (by omega)
        rw [add_lit'] at this
        rw [this, sx_get _ _ (by rw [List.length_take]; omega), List.getElem_take]
        simp [List.getD, List.getElem?_eq_getElem (show j < zs.length by omega)]

theorem caseExtra : CaseExtra Tryd.prog lowLaid_ren where
  n13 := by kernel_rfl
  y13 := by kernel_rfl
  c21 := by kernel_rfl
  c51 := by kernel_rfl
  c206 := by kernel_rfl
  c208 := by kernel_rfl
theorem u8Extra : U8Extra Tryd.prog lowLaid_ren where
  n3 := by kernel_rfl
  n4 := by kernel_rfl
  y3 := by kernel_rfl
  y4 := by kernel_rfl
  c5 := by kernel_rfl
  c119 := by kernel_rfl
  c138 := by kernel_rfl
theorem accept_eq : (Rows.laid_unicode_utf8_acceptRanges : DataW Unit) = Lib.acceptData := by kernel_rfl
theorem max_of {W : World} (h : W.ShapedOpen Tryd.prog) : ∃ m, W.cell? ⟨0, 0, none⟩ = some (.int .i64 m) :=
  cell_of_shapedOpen_int (zero := #[.int .i64 0]) (t := 3) h (of_decide_eq_true (by kernel_rfl)) (by kernel_rfl) rfl (by kernel_rfl) (by kernel_rfl) Tryd.underlying3
/-- what the walk is told of the variables -/
structure Env (w : World) : Prop where
  case : CaseEnv w
  max : ∃ m, w.cell? ⟨0, 0, none⟩ = some (.int .i64 m)
theorem env_of {W : World} (h : W.ShapedOpen Tryd.prog) (h1 : Lib.VarReads Tryd.prog W "unicode/utf8.acceptRanges" Rows.laid_unicode_utf8_acceptRanges) (h2 : Lib.VarReads Tryd.prog W "unicode.CaseRanges" Rows.laid_unicode_CaseRanges) (h3 : Lib.VarReads Tryd.prog W "unicode/utf8.first" Rows.laid_unicode_utf8_first) : Env W where
  case := ⟨caseVar_of_reads { lowLaid with } Tryd.underlying109 caseExtra (by rw [← Pinned.caseRanges_eq]; exact h2), utf8Tabs_of_reads { lowLaid with } u8Extra (by rw [← Pinned.utf8First_eq]; exact h3) (by rw [← accept_eq]; exact h1)⟩
  max := max_of h
theorem cell_go {w w' : World} {g : Nat} {i : Nat} {v : Value} (h : w.cell? ⟨g, i, none⟩ = some v) (hB : Below w.heap.size w w') : w'.cell? ⟨g, i, none⟩ = some v := (hB.cell (p := ⟨g, i, none⟩) (lt_of_cell h)).trans h
theorem Env.go {w w' : World} (h : Env w) (hB : Below w.heap.size w w') : Env w' where
  case := ⟨Lib.CaseVar_below h.case.1 hB, by
    obtain ⟨h1, h2⟩ := h.case.2
    exact ⟨fun c hc => cell_go (h1 c hc) hB, fun i hi => ⟨cell_go (h2 i hi).1 hB, cell_go (h2 i hi).2 hB⟩⟩⟩
  max := h.max.imp fun _ hm => cell_go hm hB
/-- the wrap of a row that lists variables, with the world's shape -/
theorem returnsIn_and_shaped {H : Type} {enc : TypeId × Value → H} {a : Assume} {C : Checked} {os : Os} {f : FuncId} {fn : Func} {s : ChangeSpec} {conds : List PathCond} {apart fresh handsOn again : Bool} {X : World → Array Value → Prop}
    (hX : ∀ (w w' : World) (args : Array Value), w.heap = w'.heap → X w args → X w' args)
    (own : ownKnob C.prog.godebug = none) (started : os.Started) (noInit : C.prog.inits.idxOf? f = none) (hfn : C.prog.funcs[f]? = some fn)
    (witness : ∃ (w : World) (tape : Tape) (i : Input), w.os = os ∧ (w.forCall tape i).Shaped C.prog ∧ i.vars = [] ∧ Input.okWide C.prog (w.forCall tape i) .any w.heap.size f i ∧
      ((s.pre enc C.prog fn conds apart (w.forCall tape i).memory i.args ∧ X (w.forCall tape i).memory i.args) ∧ sizedMet enc C.prog fn (OpenSpec.ofChange s) apart (w.forCall tape i).memory i.args) ∧ a.holds C.prog (lone (Frame.enter C.prog f i.args .normal) [] (w.forCall tape i)))
    (contract : ∀ (W : World) (base : Nat) (args : Array Value) (ds gs : List (DataW H)) (before : List MemPlace),
      (∀ (j : Nat) t v, fn.params[j]? = some t → args[j]? = some v → Value.okWide C.prog W .any base t v) →
      DataW.Whole enc C.prog fn.params.toList s.vars apart W args.toList ds gs before →
      conds.all (PathCond.test C.prog ⟨fn.params.toList, ds, s.plain.varTypes C.prog, gs⟩) = true →
      (DataW.weightsEach C.prog (fn.params.toList ++ s.plain.varTypes C.prog) (ds ++ gs)).all (· ≤ reachBytes) = true → X W args → W.ShapedOpen C.prog →
      a.holds C.prog (lone (Frame.enter C.prog f args .normal) [] W) →
      Calls C.prog f args W fun e W' => ∃ v, e = .returned v ∧ s.post enc C.prog fn apart fresh handsOn again W args v W') :
    ReturnsInHanded a C os f .any (fun w args => (s.pre enc C.prog fn conds apart w args ∧ X w args) ∧ sizedMet enc C.prog fn (OpenSpec.ofChange s) apart w args) (s.post enc C.prog fn apart fresh handsOn again) := by
  refine returnsInHanded_of_calls own started noInit witness ?_
  intro w tape i _ hsh _ hok hpre hholds
  obtain ⟨_, _, _, fn', hfn', _, _, _, _, hval⟩ := hok
  obtain rfl : fn' = fn := Option.some.inj (hfn'.symm.trans hfn)
  obtain ⟨⟨⟨ds, gs, before, hw, hc⟩, hx⟩, hz⟩ := hpre
  refine (contract _ w.heap.size i.args ds gs before hval (DataW.Whole.of_heap (w' := w.forCall tape i) (by rfl) hw) hc (hz.weights hw) (hX _ _ _ (by rfl) hx) hsh hholds).mono fun e W' h => ?_
  obtain ⟨v, rfl, hp⟩ := h
  exact ChangeSpec.post_blind hp
end Go.Proofs.YtjkfppgekepbeaaDoor.Pth
