/-
  six: join; only; Run.
-/
import Derived.Test.YtcoppicieicikaaDoorSixX
namespace Go.Proofs.YtcoppicieicikaaDoor.Sx
open Go.RowKit Go.Shelf

/-- texts of the first pieces, where they stand -/
def SRow (l : List Nat) (k h n : Nat) (w : World) : Prop := (∀ j, j < n → w.cell? ⟨h, j, none⟩ = some (.string (if j < k then bs (digs 16 (nth l j)) else ⟨#[]⟩)) ∧ w.frozen? ⟨h, j, none⟩ = false) ∧ h < w.heap.size
theorem SRow.go {l : List Nat} {k h n : Nat} {w w' : World} (hf : SRow l k h n w) (hb : Below w.heap.size w w') : SRow l k h n w' :=
  ⟨fun j hj => ⟨(hb.cell (p := ⟨h, j, none⟩) hf.2).trans (hf.1 j hj).1, (hb.frozen (p := ⟨h, j, none⟩) hf.2).trans (hf.1 j hj).2⟩, Nat.lt_of_lt_of_le hf.2 hb.size⟩
theorem SRow.step {l : List Nat} {k h n : Nat} {w : World} (hf : SRow l k h n w) (hk : k < n) : SRow l (k + 1) h n (w.setCell ⟨h, k, none⟩ (.string (bs (digs 16 (nth l k))))) := by
  refine ⟨fun j hj => ⟨?_, by rw [World.frozen?_setCell]; exact (hf.1 j hj).2⟩, by simpa [World.setCell] using hf.2⟩
  by_cases hjk : j = k
  · subst hjk
    rw [if_pos (Nat.lt_succ_self _)]
    exact World.cell?_setCell_same _ _ _ (hf.1 j hj).1
  · rw [World.cell?_setCell_other _ _ _ _ (by intro e; injection e; omega), (hf.1 j hj).1]
    by_cases hlt : j < k
    · rw [if_pos hlt, if_pos (by omega)]
    · rw [if_neg hlt, if_neg (by omega)]
theorem SRow.new (l : List Nat) (n : Nat) (w : World) : SRow l 0 w.heap.size n (w.alloc (.cells (madeCells #[.string ByteArray.empty] n) 9)) := by
  refine ⟨fun j hj => ⟨?_, ?_⟩, by simp⟩
  · rw [World.cell?_alloc_new, ← Array.getElem?_toList, toList_madeCells_one, List.getElem?_replicate, if_pos hj, if_neg (Nat.not_lt_zero _)]
    rfl
  · unfold World.frozen?
    rw [show (w.alloc (.cells (madeCells #[.string ByteArray.empty] n) 9)).heap[w.heap.size]? = _ from World.alloc_heap_new w _]
    simp
theorem info_u : (Tryd.prog.info? 22).map (fun i => (i.zero, i.size, i.bytes)) = some (some (.int .u16 0), 1, 2) := by kernel_rfl
theorem nth_le {l : List Nat} (h : ∀ m ∈ l, m < 65536) {k : Nat} (hk : k < l.length) : nth l k < 65536 := h _ (nth_mem hk)
theorem hx_get {l : List Nat} {j : Nat} {x : List UInt8} (h : (hx l)[j]? = some x) : j < l.length ∧ x = digs 16 (nth l j) := by
  rw [hx, List.getElem?_map] at h
  obtain ⟨a, ha, rfl⟩ := Option.map_eq_some_iff.1 h
  obtain ⟨hj, e⟩ := List.getElem?_eq_some_iff.1 ha
  refine ⟨hj, ?_⟩
  rw [nth, List.getD, ha]
  rfl
theorem map_bs (ps : List (List UInt8)) : (ps.map bs).map dl = ps := by
  rw [List.map_map]
  conv => rhs; rw [← List.map_id ps]
  exact List.map_congr_left fun q _ => bs_data q
set_option maxRecDepth 100000 in
set_option maxHeartbeats 1000000 in
theorem join_any (l : List Nat) (A : Option Addr) (n c : Nat) (w : World) (hl : l.length = n) (hn : n ≤ 8) (h16 : ∀ m ∈ l, m < 65536) (hr : Row w w.heap.size A (cu l)) (hE : Env w) :
    Calls Tryd.prog 32 #[.slice A n c] w (Texts (jn (hx l)) w) := by
  have hmk := run_make_row' (P := Tryd.prog) 35 9 (.string ByteArray.empty) 16 Tryd.underlying35 info_s rfl .i64 .i64 n (by omega) (by omega) w
  have HN0 := Lib.hid (SRow.new l n w)
  have hB0 : Below w.heap.size w (w.alloc (.cells (madeCells #[.string ByteArray.empty] n) 9)) := upA w _
  have HL := Lib.hid hl
  have H16 := Lib.hid h16
  have HE := Lib.hid (fun w' (hB : Below w.heap.size w w') => hE.go hB)
  have HR := Lib.hid hr
  generalize w.alloc (.cells (madeCells #[.string ByteArray.empty] n) 9) = W1 at hmk HN0 hB0
  have HB0 := Lib.hid hB0
  clear hl h16 hE hr hB0
  go_enter Tryd.func32, Tryd.ntmps32
  go_wp2
  clear hmk
  go_loopg [11] n (fun m s11 wr => ∃ k : Nat, s11 = .int .i64 (k : Int) ∧ n - k = m ∧ k ≤ n ∧ Hid (SRow l k w.heap.size n wr) ∧ Hid (Below w.heap.size w wr))
  case atStart => exact ⟨0, rfl, rfl, Nat.zero_le _, HN0, HB0⟩
  case round =>
    obtain ⟨k, rfl, rfl, hk, HS, HB⟩ := hrel
    by_cases hlt : k < n
    · have hltz : (k : Int) < (n : Int) := by omega
      obtain ⟨b, o, rfl, hb, hcc⟩ := (HR.out.below HB.out).at_ (by rw [cu_len, HL.out]; omega)
      have hc : wr.cell? ⟨b, o + k, none⟩ = some (.int .u16 (nth l k : Int)) := by
        rw [hcc k (by rw [cu_len, HL.out]; exact hlt), cu_get (by rw [HL.out]; exact hlt)]
      have hv := nth_le H16.out (k := k) (by rw [HL.out]; exact hlt)
      have HSt := Lib.hid (fun w' (h : SRow l k w.heap.size n w') => h.step hlt)
      have hcf : ∀ w', Below wr.heap.size wr w' → w'.cell? ⟨w.heap.size, k, none⟩ = some (.string ⟨#[]⟩) ∧ w'.frozen? ⟨w.heap.size, k, none⟩ = false := fun w' h => by
        have := (HS.out.go h).1 k hlt
        rw [if_neg (Nat.lt_irrefl _)] at this
        exact this
      have HCF := Lib.hid hcf
      generalize nth l k = v at hc hv HSt
      have HF := Lib.hid (FormatHex_any v hv wr (HE.out _ HB.out))
      have hv0 : (v : Int) < 65536 := by omega
      clear hcc hcf hv
      go_wp2_with fail
      refine HF.out.mono ?_
      rintro e w2 ⟨rfl, hB2⟩
      obtain ⟨c2, f2⟩ := HCF.out w2 hB2
      have HS2 := Lib.hid (HSt.out _ (HS.out.go hB2))
      have HB2 := Lib.hid (upB HB.out hB2)
      clear hB2
      go_wp2_with fail
      go_roundg (n - (k + 1))
      case measure => omega
      case rel => exact ⟨k + 1, by go_num, rfl, by omega, HS2, Lib.hid (HB2.out.setCell (p := ⟨w.heap.size, k, none⟩) (Nat.le_refl _) _)⟩
    · obtain rfl : k = n := by omega
      have hltz : ¬ (k : Int) < (k : Int) := by omega
      have hxl : ((hx l).map bs).length = k := by rw [List.length_map, hx, List.length_map, HL.out]
      have HJ := Lib.hid (Join_any w.heap.size k ((hx l).map bs) wr (fun j x hx' => by
        rw [List.getElem?_map] at hx'
        obtain ⟨y, hy, rfl⟩ := Option.map_eq_some_iff.1 hx'
        obtain ⟨hj, rfl⟩ := hx_get hy
        have := (HS.out.1 j (by rw [← HL.out]; exact hj)).1
        rw [if_pos (by rw [← HL.out]; exact hj)] at this
        exact this) HS.out.2 (by omega) (by omega) (by
          rw [map_bs]
          have := jn_len (hx l) (hx_len H16.out)
          have h2 : (hx l).length = k := by rw [hx, List.length_map, HL.out]
          omega))
      rw [hxl, map_bs] at HJ
      clear hxl hlt
      go_wp2_with fail
      refine HJ.out.mono ?_
      rintro e w2 ⟨rfl, hB2⟩
      go_wp2_with fail
      go_ret
      exact ⟨rfl, upB HB.out hB2⟩

/-! only. -/
def kept (x : List Nat) (k n : Nat) : List Nat := List.replicate k 0 ++ ((x.drop k).take n ++ List.replicate (8 - k - n) 0)
theorem kept_len {x : List Nat} {k n : Nat} (h8 : x.length = 8) (hk : k + n ≤ 8) : (kept x k n).length = 8 := by
  simp [kept, h8]
  omega
theorem kept_zero {x : List Nat} {k n : Nat} (h8 : x.length = 8) (hk : k + n ≤ 8) : kept x k n = z8 ↔ zr x k n := by
  have hz : z8 = List.replicate 8 0 := rfl
  have e : kept x k n = z8 ↔ ∀ v ∈ (x.drop k).take n, v = 0 := by
    have hl := kept_len h8 hk
    rw [hz, List.eq_replicate_iff]
    unfold kept at hl ⊢
    constructor
    · rintro ⟨_, h⟩ v hv
      exact h v (List.mem_append.2 (.inr (List.mem_append.2 (.inl hv))))
    · intro h
      refine ⟨hl, fun v hv => ?_⟩
      rcases List.mem_append.1 hv with hv | hv
      · exact (List.mem_replicate.1 hv).2
      · rcases List.mem_append.1 hv with hv | hv
        · exact h v hv
        · exact (List.mem_replicate.1 hv).2
  rw [e, zr_nth]
  constructor
  · intro h i hi hin
    have : nth x i ∈ (x.drop k).take n := by
      have h1 : nth ((x.drop k).take n) (i - k) = nth x i := by rw [nth_take (by omega), nth_drop, show k + (i - k) = i by omega]
      rw [← h1]
      exact nth_mem (by simp; omega)
    exact h _ this
  · intro h v hv
    obtain ⟨j, hj, rfl⟩ := List.getElem_of_mem hv
    simp at hj
    have := h (k + j) (by omega) (by omega)
    rw [nth, List.getD, List.getElem?_eq_getElem (by omega)] at this
    simpa using this
theorem kept_splice {x : List Nat} {k n : Nat} (h8 : x.length = 8) (hk : k + n ≤ 8) : splice (cu z8) k (cu ((x.drop k).take n)) = cu (kept x k n) := by
  have hl : (cu ((x.drop k).take n)).length = n := by rw [cu_len, List.length_take, List.length_drop, h8]; omega
  have hz : cu z8 = List.replicate 8 (.int .u16 0) := rfl
  have hr : ∀ m, cu (List.replicate m 0) = List.replicate m (.int .u16 0) := fun m => by simp [cu]
  unfold splice kept
  rw [hl, cu_app, cu_app, hr, hr, hz, List.take_replicate, List.drop_replicate, show min k 8 = k by omega, show 8 - (k + n) = 8 - k - n by omega]
theorem arr8 : Tryd.prog.arrayLen 23 = 8 := by kernel_rfl
theorem elem8 : Tryd.prog.elem 23 = 22 := by kernel_rfl
theorem under8 : Tryd.prog.underlying 23 = some (.array (Tryd.prog.arrayLen 23) (Tryd.prog.elem 23)) := by rw [arr8, elem8]; exact Tryd.underlying23
/-- where a slice of eight begins -/
def off (k : Nat) : Nat := if k = 8 then 0 else k
theorem off_lt {k : Nat} (h : k < 8) : off k = k := if_neg (by omega)
theorem size16 (W : World) : (sizeOf 22).run Tryd.prog W = .ok 1 W := by kernel_rfl
theorem sl_l (B k : Nat) (hk : k ≤ 8) (W : World) : (Instr.sliceAt 23 (.pointer (some ⟨B, 0, none⟩)) (some (.int .i64 (k : Int))) none none).run Tryd.prog W = .ok (.slice (some ⟨B, off k, none⟩) (8 - k) (8 - k)) W := by
  rw [run_sliceAt_array_l W 23 ⟨B, 0, none⟩ under8 .i64 (k : Int) (by omega) (by rw [arr8]; omega), arr8, elem8, size16]
  unfold off slicedAt
  by_cases h : k = 8
  · subst h; simp [Result.andThen]
  · have h2 : ¬ 8 = k := fun e => h e.symm
    simp [Result.andThen, h, h2, Addr.add]
    exact fun e => e.symm
theorem sl_h (B k : Nat) (hk : k ≤ 8) (W : World) : (Instr.sliceAt 23 (.pointer (some ⟨B, 0, none⟩)) none (some (.int .i64 (k : Int))) none).run Tryd.prog W = .ok (.slice (some ⟨B, 0, none⟩) k 8) W := by
  rw [run_sliceAt_array_h W 23 ⟨B, 0, none⟩ under8 .i64 (k : Int) (by omega) (by rw [arr8]; omega), arr8, elem8, size16]
  unfold slicedAt
  simp [Result.andThen, Addr.add]
theorem sl_all (B : Nat) (W : World) : (Instr.sliceAt 23 (.pointer (some ⟨B, 0, none⟩)) none none none).run Tryd.prog W = .ok (.slice (some ⟨B, 0, none⟩) 8 8) W := by
  rw [run_sliceAt_array_all W 23 ⟨B, 0, none⟩ under8, arr8, elem8, size16]
  unfold slicedAt
  simp [Result.andThen, Addr.add]
theorem sl_lh (B k n : Nat) (hk : k + n ≤ 8) (hk8 : k < 8) (W : World) : (Instr.sliceAt 23 (.pointer (some ⟨B, 0, none⟩)) (some (.int .i64 (k : Int))) (some (.int .i64 ((k : Int) + (n : Int)))) none).run Tryd.prog W = .ok (.slice (some ⟨B, k, none⟩) n (8 - k)) W := by
  rw [run_sliceAt_array_lh W 23 ⟨B, 0, none⟩ under8 .i64 .i64 (k : Int) ((k : Int) + (n : Int)) (by omega) (by omega) (by rw [arr8]; omega), arr8, elem8, size16]
  have e : ((k : Int) + (n : Int)).toNat = k + n := by omega
  rw [e]
  unfold slicedAt
  have h2 : ¬ 8 = k := by omega
  simp [Result.andThen, h2, Addr.add]
  exact fun e => e.symm
theorem info16 : (Tryd.prog.info? 22).map (·.size) = some 1 := by kernel_rfl
set_option maxRecDepth 100000 in
set_option maxHeartbeats 1000000 in
theorem only_any (x : List Nat) (h8 : x.length = 8) (k n : Nat) (hk : k + n ≤ 8) (hk8 : k < 8) (w : World) : Calls Tryd.prog 31 #[av x, .int .i64 (k : Int), .int .i64 (n : Int)] w (Tells (av (kept x k n)) w) := by
  have H8 := Lib.hid h8
  have hi1 : (k : Int) ≤ 8 := by omega
  have hi2 : (k : Int) + (n : Int) ≤ 8 := by omega
  have h0 := (Hx.new w x).go (((upA _ (.cells (cu z8).toArray 23))).alloc (by simp) (.cells (cu z8).toArray 23))
  have h1 := (Hx.new (w.alloc (.cells (cu x).toArray 23)) z8).go (upA _ (.cells (cu z8).toArray 23))
  have h2 := Hx.new ((w.alloc (.cells (cu x).toArray 23)).alloc (.cells (cu z8).toArray 23)) z8
  rw [World.size_alloc] at h1 h2
  rw [World.size_alloc] at h2
  have hB0 : Below w.heap.size w (((w.alloc (.cells (cu x).toArray 23)).alloc (.cells (cu z8).toArray 23)).alloc (.cells (cu z8).toArray 23)) := ((upA w _).alloc (by simp) _).alloc (by simp; omega) _
  have ez : (cu z8).toArray = #[.int .u16 0, .int .u16 0, .int .u16 0, .int .u16 0, .int .u16 0, .int .u16 0, .int .u16 0, .int .u16 0] := rfl
  rw [ez] at h0 h1 h2 hB0
  clear ez
  have HSL1 := Lib.hid (fun W => sl_l (w.heap.size + 1 + 1) k (by omega) W)
  have HSL2 := Lib.hid (fun W => sl_lh w.heap.size k n hk hk8 W)
  rw [off_lt hk8] at HSL1
  have HK := Lib.hid hk
  obtain ⟨X, hX⟩ : ∃ X, cu ((x.drop k).take n) = X := ⟨_, rfl⟩
  have hXl : X.length = n := by rw [← hX, cu_len, List.length_take, List.length_drop, h8]; omega
  have HXS : Hid (splice (cu z8) k X = cu (kept x k n)) := Lib.hid (by rw [← hX]; exact kept_splice h8 hk)
  have HX1 : Hid (∀ v ∈ X, v.oneCell' = true) := Lib.hid (by rw [← hX]; exact one_cu _)
  have HXC : Hid (∀ W, Hx W w.heap.size x → ∀ (j : Nat) v, X[j]? = some v → W.cell? ((⟨w.heap.size, k, none⟩ : Addr).add j) = some v) := Lib.hid (by
    intro W hW j v hv
    have hj := (List.getElem?_eq_some_iff.1 hv).1
    rw [hXl] at hj
    rw [← hX, cu_get (by rw [List.length_take, List.length_drop, h8]; omega)] at hv
    rw [Lib.add_plain, hW.cell (by omega), ← Option.some.inj hv, nth_take (by omega), nth_drop])
  have HXL := Lib.hid hXl
  have hkl := kept_len h8 hk
  obtain ⟨K, hK⟩ : ∃ K, kept x k n = K := ⟨_, rfl⟩
  rw [hK] at HXS hkl ⊢
  have HKL := Lib.hid hkl
  clear hX hXl hkl hK
  go_enter Tryd.func31, Tryd.ntmps31
  go_upto_region 2 with fail
  generalize ((w.alloc (.cells (cu x).toArray 23)).alloc (.cells #[.int .u16 0, .int .u16 0, .int .u16 0, .int .u16 0, .int .u16 0, .int .u16 0, .int .u16 0, .int .u16 0] 23)).alloc (.cells #[.int .u16 0, .int .u16 0, .int .u16 0, .int .u16 0, .int .u16 0, .int .u16 0, .int .u16 0, .int .u16 0] 23) = W1 at h0 h1 h2 hB0 ⊢
  have hw : IntKind.i64.wrap ((k : Int) + (n : Int)) = (k : Int) + (n : Int) := IntWalk.i64_in _ (by omega)
  have hs1 := HSL1.out
  have hs2 := HSL2.out
  have HG : Hid (W1.drew.heap[w.heap.size + 1 + 1]? = some (.cells (cu z8).toArray 23 (0, 0))) := Lib.hid h2
  have HCC : Hid (∀ (j : Nat) v, X[j]? = some v → W1.drew.cell? ((⟨w.heap.size, k, none⟩ : Addr).add j) = some v) := Lib.hid (HXC.out W1.drew h0)
  have HM : Hid (X.length = Nat.min n (8 - k)) := Lib.hid (by have := HXL.out; have := HK.out; simp only [Nat.min_def]; split <;> omega)
  have HF : Hid (k + X.length ≤ (cu z8).length) := Lib.hid (by have := HXL.out; have := HK.out; rw [cu_len]; show k + X.length ≤ 8; omega)
  have HBr : Hid (Below (w.heap.size + 1 + 1) W1 W1.drew) := Lib.hid ((Below.refl _ W1).drew)
  go_region_law (refine step_copy_splice rfl (.tmp 9) (.tmp 14) 51 51 rfl 22 Tryd.underlying51 info16 (some ⟨w.heap.size + 1 + 1, k, none⟩) (some ⟨w.heap.size, k, none⟩) (8 - k) (8 - k) n (8 - k) (by simp [Act.eval, Act.put]) (by simp [Act.eval, Act.put]) (w.heap.size + 1 + 1) k (cu z8) 23 HG.out X HM.out (fun _ => ⟨rfl, _, rfl, HCC.out⟩) HF.out HX1.out (w.heap.size + 1 + 1) W1 HBr.out (Nat.le_refl _) ?_; intro w4 hg4 hb4)
  have hx7 : Hx w4 (w.heap.size + 1 + 1) K := by
    have := hg4.out
    rw [HXS.out] at this
    exact this
  have hx6 : Hx w4 (w.heap.size + 1) z8 := h1.gob (Nat.lt_succ_self _) hb4
  have hB4 : Below w.heap.size w w4 := hB0.trans (hb4.mono (by omega))
  have hu := Tryd.underlying23
  have hT := hx6.there (y := K) (by rw [HKL.out]; rfl)
  have hI := info_ofA HKL.out
  have hO := oneA K
  have hR := hx7.range
  have hI2 := info_of HKL.out
  have HV := Lib.hid (load_set hx6 rfl HKL.out)
  clear HCC HG HBr HM HF h0 h1 h2 hb4 hg4 hs1 hs2 HSL1 HSL2 HXC HX1
  go_wp2_with (first | (refine wpList_load_mid rfl 23 _ rfl _ 0 rfl (cu K) _ hR hu rfl hI2 ?_) | (refine wpList_store_mid rfl 23 _ _ rfl _ 0 (cu K).toArray rfl rfl hT hI hO ?_) | fail)
  refine bodyPost_ret (v := av K) ?_ rfl ⟨rfl, below_setCells (Nat.le_succ _) _ _ _ hB4⟩
  exact results_cell Tryd.results31 rfl HV.out
end Go.Proofs.YtcoppicieicikaaDoor.Sx
