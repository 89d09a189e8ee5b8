/-
  mixed: arrays of twelve counts: without, only.
-/
import Derived.Test.YtjpmecdjlodaoaaDoorMixA
import Derived.Test.YtjpmecdjlodaoaaDoorAppendRow
import Derived.Deep.MidRow
import Derived.ChangeKeysEq
import Derived.Deep.DeepCutAuto
namespace Go.Proofs.YtjpmecdjlodaoaaDoor.Mix
open Go.RowKit Ucd Rul

abbrev cv (L : List Int) : Value := .agg (cl .i64 L).toArray
/-- a block of counts -/
def Cb (w : World) (B : Nat) (L : List Int) : Prop := w.heap[B]? = some (.cells (cl .i64 L).toArray 43 (0, 0))
theorem Cb.new (w : World) (L : List Int) : Cb (w.alloc (.cells (cl .i64 L).toArray 43)) w.heap.size L := World.alloc_heap_new w _
theorem Cb.lt {w : World} {B : Nat} {L : List Int} (h : Cb w B L) : B < w.heap.size := (Array.getElem?_eq_some_iff.1 h).1
theorem Cb.go {a b : World} {B : Nat} {L : List Int} (h : Cb a B L) (hb : Below a.heap.size a b) : Cb b B L := (hb.block _ h.lt).trans h
theorem Cb.range {w : World} {B : Nat} {L : List Int} (h : Cb w B L) : w.rangeAt B 0 (cl .i64 L) := fun j v hv => by
  rw [cell_of_row w B (0 + j) _ _ _ h, Nat.zero_add, List.getElem?_toArray, hv]
theorem Cb.cell {w : World} {B : Nat} {L : List Int} (h : Cb w B L) {k : Nat} (hk : k < L.length) : w.cell? ⟨B, k, none⟩ = some (.int .i64 L[k]!) := by
  rw [cell_of_row w B k _ _ _ h, List.getElem?_toArray, List.getElem?_map, gets hk]
  rfl
theorem Cb.frozen {w : World} {B : Nat} {L : List Int} (h : Cb w B L) (k : Nat) : w.frozen? ⟨B, k, none⟩ = false := by
  unfold Cb at h
  simp [World.frozen?, h]
theorem Cb.set {w : World} {B : Nat} {L : List Int} (h : Cb w B L) (k : Nat) (x : Int) : Cb (w.setCell ⟨B, k, none⟩ (.int .i64 x)) B (L.set k x) := by
  unfold Cb at h ⊢
  simp only [World.setCell, Array.getElem?_modify, if_true, h, Option.map_some]
  congr 2
  simp [cl]
theorem Cb.there {w : World} {B : Nat} {L : List Int} (h : Cb w B L) : w.there B 0 L.length := fun j hj => by
  rw [Nat.zero_add]
  exact ⟨by rw [h.cell hj]; rfl, h.frozen j⟩
theorem info_cnt : (Tryd.prog.info? 43).map (·.size) = some 12 := by kernel_rfl
theorem info_of (L : List Int) (h : L.length = 12) : (Tryd.prog.info? 43).map (·.size) = some (cl .i64 L).length := by rw [List.length_map, h]; exact info_cnt

theorem results_cell {P : Program} {fn : Func} {k : Tmp} {t : TypeId} {tmps : Array Value} {w : World} {a : Addr} {v : Value} (h : fn.results = #[.cell k t]) (hp : tmps.getD k undef = .pointer (some a)) (hl : (loadVar t a).run P w = .ok v w) : (results fn tmps).run P w = .ok v w := by
  rw [Array.getD_eq_getD_getElem?] at hp
  simp [results, h]
  rw [hp]
  simp [asAddr, hl]
theorem below_setCells {B : Nat} {a : World} {b : Nat} (hb : B ≤ b) : ∀ (vs : List Value) (o : Nat) (w : World), Below B a w → Below B a (w.setCells b o vs)
  | [], _, _, h => h
  | v :: r, o, w, h => by
    rw [World.setCells]
    exact below_setCells hb r (o + 1) _ (h.setCell hb v)
theorem one12 (M : List Int) : (cl .i64 M).toArray.all (·.oneCell') = true := all_oneCell_toArray (one_cl _ _)
theorem Cb.thereA {w : World} {B : Nat} {L M : List Int} (h : Cb w B L) (hL : L.length = 12) (hM : M.length = 12) : w.there B 0 (cl .i64 M).toArray.size := by
  have := h.there
  rw [hL] at this
  simpa [hM] using this
theorem info_ofA (L : List Int) (h : L.length = 12) : (Tryd.prog.info? 43).map (·.size) = some (cl .i64 L).toArray.size := by rw [List.size_toArray]; exact info_of L h
/-- what a result variable holds behind a store of counts -/
theorem load_set {w : World} {B : Nat} {L M : List Int} (h : Cb w B L) (hL : L.length = 12) (hM : M.length = 12) : (loadVar 43 ⟨B, 0, none⟩).run Tryd.prog (w.setCells B 0 (cl .i64 M)) = .ok (cv M) (w.setCells B 0 (cl .i64 M)) :=
  run_loadVar_mid _ B 0 43 (cl .i64 M) _ (World.rangeAt_setCells_same w B 0 _ (by have := h.thereA hL hM; rwa [List.size_toArray] at this)) Tryd.underlying43 rfl (info_of M hM)
theorem cell8 {w : World} {b o : Nat} {l : List Int} (hc : ∀ k, k < (cl .u8 l).length → w.cell? ⟨b, o + k, none⟩ = (cl .u8 l)[k]?) (k : Nat) (hk : k < l.length) : w.cell? ⟨b, o + k, none⟩ = some (.int .u8 l[k]!) := by
  rw [hc k (by simpa using hk), List.getElem?_map, gets hk]
  rfl
theorem take_snoc (ks : List Int) (k : Nat) (hk : k < ks.length) : ks.take (k + 1) = ks.take k ++ [ks[k]!] := by
  rw [List.take_succ_eq_append_getElem hk, getElem!_pos ks k hk]
set_option maxRecDepth 100000 in
set_option maxHeartbeats 1000000 in
theorem without_any (L ks : List Int) (hL : L.length = 12) (hk : ∀ k ∈ ks, 0 ≤ k ∧ k ≤ 11) (A : Option Addr) (n c : Nat) (w : World) (hn : ks.length = n) (hn1 : n ≤ 1000) (hr : Row w w.heap.size A (cl .u8 ks)) : Calls Tryd.prog 35 #[cv L, .slice A n c] w (Tells (cv (wo L ks)) w) := by
  have HN := Lib.hid hn
  have HL := Lib.hid hL
  have HK := Lib.hid hk
  clear hn hL hk
  have h0 := (Cb.new w L).go (b := (w.alloc (.cells (cl .i64 L).toArray 43)).alloc (.cells (cl .i64 z12).toArray 43)) ((Below.refl _ _).alloc (Nat.le_refl _) _)
  have h1 := Cb.new (w.alloc (.cells (cl .i64 L).toArray 43)) z12
  have hB0 : Below w.heap.size w ((w.alloc (.cells (cl .i64 L).toArray 43)).alloc (.cells (cl .i64 z12).toArray 43)) := ((Below.refl _ w).alloc (Nat.le_refl _) _).alloc (by simp) _
  rw [World.size_alloc] at h1
  change Cb ((w.alloc (.cells (cl .i64 L).toArray 43)).alloc (.cells #[.int .i64 0, .int .i64 0, .int .i64 0, .int .i64 0, .int .i64 0, .int .i64 0, .int .i64 0, .int .i64 0, .int .i64 0, .int .i64 0, .int .i64 0, .int .i64 0] 43)) _ _ at h0 h1
  change Below w.heap.size w ((w.alloc (.cells (cl .i64 L).toArray 43)).alloc (.cells #[.int .i64 0, .int .i64 0, .int .i64 0, .int .i64 0, .int .i64 0, .int .i64 0, .int .i64 0, .int .i64 0, .int .i64 0, .int .i64 0, .int .i64 0, .int .i64 0] 43)) at hB0
  go_enter Tryd.func35, Tryd.ntmps35
  go_wp2_with fail
  generalize (w.alloc (.cells (cl .i64 L).toArray 43)).alloc (.cells #[.int .i64 0, .int .i64 0, .int .i64 0, .int .i64 0, .int .i64 0, .int .i64 0, .int .i64 0, .int .i64 0, .int .i64 0, .int .i64 0, .int .i64 0, .int .i64 0] 43) = w1 at h0 h1 hB0 ⊢
  go_loopg [9] n (fun m s9 wr => ∃ k : Nat, s9 = .int .i64 (k : Int) ∧ m = n - k ∧ k ≤ n ∧ Cb wr w.heap.size (wo L (ks.take k)) ∧ Cb wr (w.heap.size + 1) z12 ∧ Below w.heap.size w wr)
  case atStart => exact ⟨0, rfl, rfl, Nat.zero_le _, h0, h1, hB0⟩
  case round =>
    clear h0 h1 hB0
    obtain ⟨k, rfl, rfl, hk, h0, h1, hB⟩ := hrel
    by_cases hlt : k < n
    · have hltz : (k : Int) < (n : Int) := by omega
      obtain ⟨b, o, rfl, hb', hcc⟩ := (hr.below hB).at_ (by have := HN.out; rw [List.length_map]; omega)
      have c0 := cell8 hcc k (by rw [HN.out]; exact hlt)
      have hz := HK.out _ (mems (l := ks) (i := k) (by rw [HN.out]; exact hlt))
      have HS := Lib.hid (take_snoc ks k (by rw [HN.out]; exact hlt))
      obtain ⟨z, hz0⟩ : ∃ z, ks[k]! = z := ⟨_, rfl⟩
      rw [hz0] at c0 hz HS
      have c1 := h0.cell (k := z.toNat) (by rw [wo_len, HL.out]; omega)
      have f1 := h0.frozen z.toNat
      have h0' := h0.set z.toNat 0
      have HT : Hid (wo L (ks.take (k + 1)) = (wo L (ks.take k)).set z.toNat 0) := Lib.hid (by rw [HS.out, wo_snoc])
      clear hcc hz0
      go_wp2_with fail
      go_roundg (n - (k + 1))
      case measure => omega
      case rel =>
        refine ⟨k + 1, by go_num, rfl, by omega, ?_, ?_, ?_⟩
        · rw [HT.out]; exact h0'
        · exact (Below.heap_setCell _ _ _ _ (by simp)).trans h1
        · exact hB.setCell (Nat.le_refl _) _
    · obtain rfl : k = n := by omega
      have hltz : ¬ ((k : Nat) : Int) < (k : Int) := by omega
      rw [List.take_of_length_le (by rw [HN.out]; exact Nat.le_refl _)] at h0
      have hu := Tryd.underlying43
      have hwl : (wo L ks).length = 12 := by rw [wo_len, HL.out]
      obtain ⟨M, hM⟩ : ∃ M, wo L ks = M := ⟨_, rfl⟩
      rw [hM] at h0 hwl
      have HM := Lib.hid hM
      clear hM
      have hT := h1.thereA z12_len hwl
      have hI := info_ofA M hwl
      have hO := one12 M
      have HV := Lib.hid (load_set h1 z12_len hwl)
      go_wp2_with (first | (refine wpList_load_mid rfl 43 _ rfl _ 0 rfl (cl .i64 M) _ h0.range hu rfl (info_of M hwl) ?_) | (refine wpList_store_mid rfl 43 _ _ rfl _ 0 (cl .i64 M).toArray rfl rfl hT hI hO ?_) | fail)
      refine bodyPost_ret (v := cv M) ?_ rfl ⟨by rw [HM.out], below_setCells (Nat.le_succ _) _ _ _ hB⟩
      exact results_cell Tryd.results35 rfl HV.out

/-! Two arrays compared. -/
theorem int_under : Tryd.prog.underlying 3 = some (.int .i64) := Tryd.underlying3
theorem part_cnt (L : List Int) (w : World) (i : Nat) (h : i < L.length) : (part 3 (cl .i64 L).toArray i).run Tryd.prog w = .ok (.int .i64 L[i]!) w :=
  run_part_plain w (by kernel_rfl) (by rw [List.getElem?_toArray, List.getElem?_map, gets h]; rfl)
theorem items_eq (L M : List Int) (w : World) (d : Nat) : ∀ is : List Nat, (∀ i ∈ is, i < L.length ∧ i < M.length) → (Op.eqItems (d + 1) 3 1 (cl .i64 L).toArray (cl .i64 M).toArray is).run Tryd.prog w = .ok (is.all fun i => L[i]! == M[i]!) w
  | [], _ => by simp [Op.eqItems]
  | i :: is, h => by
    have hi := h i (List.mem_cons_self ..)
    have ih := items_eq L M w d is fun j hj => h j (List.mem_cons_of_mem _ hj)
    simp only [Op.eqItems, Sem.run_bind, Nat.mul_one, part_cnt L w i hi.1, part_cnt M w i hi.2, Result.andThen_ok, run_equalIn_int w d 3 .i64 .i64 _ _ int_under]
    rw [List.all_cons]
    cases hq : (L[i]! == M[i]!) with
    | true =>
      simp only [Bool.not_true, Bool.false_eq_true, if_false, Bool.true_and]
      exact ih
    | false => simp
theorem all_range (L M : List Int) (h : L.length = M.length) : ((List.range L.length).all fun i => L[i]! == M[i]!) = decide (L = M) := by
  rw [Bool.eq_iff_iff, decide_eq_true_eq, List.all_eq_true]
  constructor
  · intro k
    refine List.ext_getElem h fun i h1 h2 => ?_
    have := k i (List.mem_range.2 h1)
    rw [getElem!_pos L i h1, getElem!_pos M i h2] at this
    simpa using this
  · rintro rfl i _
    simp
theorem equal_cnt (L M : List Int) (hL : L.length = 12) (hM : M.length = 12) (w : World) : (Op.equalIn 10000 43 (cv L) (cv M)).run Tryd.prog w = .ok (decide (L = M)) w := by
  obtain ⟨i, hi⟩ : ∃ i, Tryd.prog.info? 3 = some i := Option.isSome_iff_exists.1 (by kernel_rfl)
  have e := run_equalIn_array w 9999 (cl .i64 L).toArray (cl .i64 M).toArray Tryd.underlying43 hi
  rw [show Tryd.prog.cellsOf 3 = 1 by kernel_rfl, items_eq L M w 9998 (List.range 12) (fun i hi => by have := List.mem_range.1 hi; omega)] at e
  have h := all_range L M (by omega)
  rw [hL] at h
  rw [h] at e
  exact e

set_option maxRecDepth 100000 in
set_option maxHeartbeats 1000000 in
theorem only_any (L ks : List Int) (hL : L.length = 12) (hk : ∀ k ∈ ks, 0 ≤ k ∧ k ≤ 11) (A : Option Addr) (n c : Nat) (w : World) (hn : ks.length = n) (hn1 : n ≤ 1000) (hr : Row w w.heap.size A (cl .u8 ks)) : Calls Tryd.prog 51 #[cv L, .slice A n c] w (IsB (decide (wo L ks = z12)) w) := by
  have HW := Lib.hid (fun W (h : Below w.heap.size w W) => without_any L ks hL hk A n c W hn hn1 (upR hr h))
  have HE : ∀ W, (Op.equalIn 10000 43 (.agg (cl .i64 (wo L ks)).toArray) (.agg #[.int .i64 0, .int .i64 0, .int .i64 0, .int .i64 0, .int .i64 0, .int .i64 0, .int .i64 0, .int .i64 0, .int .i64 0, .int .i64 0, .int .i64 0, .int .i64 0])).run Tryd.prog W = .ok (decide (wo L ks = z12)) W := fun W => equal_cnt (wo L ks) z12 (by rw [wo_len, hL]) z12_len W
  have hB0 : Below w.heap.size w (w.alloc (.cells (cl .i64 L).toArray 43)) := upA w _
  have h0 := Cb.new w L
  have hu := Tryd.underlying43
  have hI := Lib.hid (info_of L hL)
  clear hr hn hL hk
  generalize decide (wo L ks = z12) = q at HE ⊢
  generalize wo L ks = M at HW HE
  go_enter Tryd.func51, Tryd.ntmps51
  go_upto_region 1 with fail
  generalize w.alloc (.cells (cl .i64 L).toArray 43) = w1 at h0 hB0 ⊢
  go_wp2_with (first | (refine wpList_load_mid rfl 43 _ rfl _ 0 rfl (cl .i64 L) _ h0.range hu rfl hI.out ?_) | (go_at_call 35; refine (HW.out _ hB0).mono ?_; rintro e w2 ⟨rfl, hB2⟩) | fail)
  go_ret
  exact ⟨rfl, upB hB0 hB2⟩
end Go.Proofs.YtjpmecdjlodaoaaDoor.Mix
