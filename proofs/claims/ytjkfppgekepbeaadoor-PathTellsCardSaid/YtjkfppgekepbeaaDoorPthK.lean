/-
  A text as code points; fascialaw16: walks.
-/
import Derived.Test.YtjkfppgekepbeaaDoorPthJ
import Derived.Laws.IdiomStrings
import Derived.Laws.RangeString
namespace Go.Proofs.YtjkfppgekepbeaaDoor.Pth
set_option maxRecDepth 100000
open Go.RowKit Utf Ut Hst

/-- a text's code points, from a place on -/
def rnF (s : ByteArray) : Nat → Nat → List Int
  | 0, _ => []
  | b + 1, i => if i < s.size then ((Utf8.decode s i).1 : Int) :: rnF s b (i + (Utf8.decode s i).2) else []
def rn (s : ByteArray) : List Int := rnF s s.size 0
theorem runes_rnF (s : ByteArray) : ∀ (b i : Nat) (acc : Array Value), Conv.runesFrom s b i acc = acc ++ (cl .i32 (rnF s b i)).toArray
  | 0, i, acc => by simp [Conv.runesFrom, rnF]
  | b + 1, i, acc => by
    rw [Conv.runesFrom, rnF]
    split
    · simp only
      rw [runes_rnF s b]
      simp
    · simp
theorem rnF_len (s : ByteArray) : ∀ (b i : Nat), (rnF s b i).length ≤ b
  | 0, _ => Nat.le_refl _
  | b + 1, i => by
    rw [rnF]
    split
    · have := rnF_len s b (i + (Utf8.decode s i).2)
      simp
      omega
    · simp
theorem rn_len (s : ByteArray) : (rn s).length ≤ s.size := rnF_len s _ _
theorem rnF_asc (s : ByteArray) (h : ∀ x ∈ dl s, x.toNat < 128) : ∀ (b i : Nat), i + b = s.size → rnF s b i = bi ((dl s).drop i)
  | 0, i, hi => by
    rw [rnF, List.drop_of_length_le (by simp [dl]; omega)]
    rfl
  | b + 1, i, hi => by
    have hlt : i < s.size := by omega
    have hd : (dl s).drop i = s[i] :: (dl s).drop (i + 1) := List.drop_eq_getElem_cons (by simpa [dl] using hlt)
    have ha : (s[i]'hlt).toNat < 128 := h _ (by
      have : s[i] ∈ (dl s).drop i := by rw [hd]; exact List.mem_cons_self ..
      exact List.mem_of_mem_drop this)
    rw [rnF, if_pos hlt, decode_ascii s i hlt ha, rnF_asc s h b (i + 1) (by omega), hd]
    rfl
theorem rn_asc {s : ByteArray} (h : ∀ x ∈ dl s, x.toNat < 128) : rn s = bi (dl s) := by
  unfold rn
  rw [rnF_asc s h s.size 0 (by omega), List.drop_zero]
theorem conv_all (s : ByteArray) (w : World) (hs : s.size ≤ 1000000) :
    ∃ W' c, (convert 9 22 (.string s)).run Tryd.prog w = .ok (.slice (some ⟨w.heap.size, 0, none⟩) (rn s).length c) W' ∧ (rn s).length ≤ c ∧ Row W' W'.heap.size (some ⟨w.heap.size, 0, none⟩) (cl .i32 (rn s)) ∧ Below w.heap.size w W' := by
  have hr := runes_rnF s s.size 0 #[]
  rw [show rnF s s.size 0 = rn s from rfl, Array.empty_append] at hr
  have hl : (Conv.runesFrom s s.size 0 #[]).size = (rn s).length := by rw [hr]; simp
  have hl2 := rn_len s
  have := run_runes_of_string (P := Tryd.prog) w 9 22 21 s Tryd.underlying9 Tryd.underlying22 Tryd.underlying21 (by rw [hl]; omega)
  rw [hl, hr] at this
  refine ⟨_, _, this, grownCap_ge w _ _ _, ?_, (Below.refl _ w).drew.alloc (Nat.le_refl _) _⟩
  refine .inr ⟨w.heap.size, 0, rfl, by rw [World.size_alloc]; exact Nat.lt_succ_self _, fun k hk => ?_⟩
  have hn := World.alloc_heap_new w.drew (.cells ((cl .i32 (rn s)).toArray ++ Array.replicate (grownCap w (rn s).length 0 21 - (rn s).length) (.int .i32 0)) 21)
  rw [Nat.zero_add]
  show World.cell? _ ⟨w.drew.heap.size, k, none⟩ = _
  rw [cell_of_row _ _ k _ _ _ hn]
  have hk2 : k < (rn s).length := by simpa [cl] using hk
  simp [Array.getElem?_append]
  intro h2
  omega
set_option maxHeartbeats 1000000 in
theorem walks_any (s t : ByteArray) (hs : s.size ≤ maxLen) (ht : t.size ≤ 10000) (ys : List ByteArray) (A : Option Addr) (n c : Nat) (w : World) (hn : ys.length = n) (hn1 : n ≤ 1000000) (hr : Row w w.heap.size A (sx ys)) :
    Calls Tryd.prog 28 #[.string s, .string t, .slice A n c] w (Says (decide (wlk (spc s) (fil s) [] (rn t) = ys)) w) := by
  obtain ⟨W2, c2, hcv, hc2, hr2, hB2⟩ := conv_all t w (by omega)
  have hl := rn_len t
  have hwl : (wlk (spc s) (fil s) [] (rn t)).length ≤ 100000 := by
    have h1 := wgo_len (fil s) (mk (prt (spc s) (rn t))) []
    have h2 := prt_len (spc s) (rn t)
    have h3 := mk_len (prt (spc s) (rn t))
    unfold wlk
    simp at h1
    omega
  have HW := Lib.hid (Walk_any s hs [] none 0 0 (rn t) (some ⟨w.heap.size, 0, none⟩) (rn t).length c2 W2 rfl (by omega) rfl hc2 (by omega) .empty hr2)
  obtain ⟨k, hk⟩ : ∃ k, (rn t).length = k := ⟨_, rfl⟩
  rw [hk] at HW hcv hl
  obtain ⟨P, hP⟩ : ∃ P, wlk (spc s) (fil s) [] (rn t) = P := ⟨_, rfl⟩
  rw [hP] at HW hwl ⊢
  obtain ⟨q, hq⟩ : ∃ q, P.length = q := ⟨_, rfl⟩
  have HT := Lib.hid (fun W B1 c1 d1 (h1 : Row W W.heap.size B1 (sx P)) (h2 : Row W W.heap.size A (sx ys)) => Texts_any P ys B1 A q n c1 d1 W hq hn (by omega) hn1 h1 h2)
  unfold MadeTexts at HW
  rw [hq] at HW
  have HR := Lib.hid hr
  have HB2 := Lib.hid hB2
  clear hk hP hq hr hr2 hB2 hn hc2
  go_enter Tryd.func28, Tryd.ntmps28
  go_wp2_with (first
    | (go_at_call 21; refine HW.out.mono ?_; rintro e w3 ⟨A3, c3, rfl, hO3, hB3⟩; have hB03 := upB HB2.out hB3)
    | (go_at_call 18; refine (HT.out _ _ _ _ (Row.of_own hO3) ((HR.out.below hB03).mono hB03.size)).mono ?_; rintro e w4 ⟨rfl, hB4⟩)
    | fail)
  go_ret
  exact ⟨rfl, upB hB03 hB4⟩
end Go.Proofs.YtjkfppgekepbeaaDoor.Pth
