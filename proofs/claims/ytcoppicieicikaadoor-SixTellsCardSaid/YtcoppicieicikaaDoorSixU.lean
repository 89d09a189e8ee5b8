/-
  strings.Trim by a set; a text of one byte.
-/
import Derived.Test.YtcoppicieicikaaDoorSixV
import Derived.Test.YtcoppicieicikaaDoorSixO
import Derived.Laws.BytesArg
import Derived.Laws.BytesString
import Derived.Shelf.Strings.SlTrimAscii
namespace Go.Proofs.YtcoppicieicikaaDoor.Sx
open Go.RowKit Go.Shelf

theorem info_set : (Tryd.prog.info? (trimLaid_ren.t 116)).map (fun i => (i.zero, i.size)) = some (some (.agg (Array.replicate 256 (.bool false))), 256) := by kernel_rfl
def setb : ByteArray := ⟨#[48, 49, 50, 51, 52, 53, 54, 55, 56, 57, 97, 98, 99, 100, 101, 102, 65, 66, 67, 68, 69, 70, 58, 46]⟩
theorem Trim_any (s : ByteArray) (hs : s.size ≤ 1000000) (w : World) : Calls Tryd.prog 21 #[.string s, .string ⟨#[48, 49, 50, 51, 52, 53, 54, 55, 56, 57, 97, 98, 99, 100, 101, 102, 65, 66, 67, 68, 69, 70, 58, 46]⟩] w (Texts (Lib.trimS (dl s) (hexc ++ [46])) w) :=
  Any.strings_Trim_laid trimLaid info_set s setb w (by omega) (by decide) (ascii_of_all (by decide))
theorem conv_byte (c : Int) (w : World) : (convert 34 9 (.slice (some ⟨w.heap.size, 0, none⟩) 1 1)).run Tryd.prog (w.alloc (.cells #[.int .u8 c] 5)) = .ok (.string (strOfNums [c])) (w.alloc (.cells #[.int .u8 c] 5)) :=
  run_convert_bytes_arg _ 34 5 Tryd.underlying34 Tryd.underlying5 w.heap.size 0 1 1 [c] (by simp) (fun i hi => by
    obtain rfl : i = 0 := by omega
    rw [World.cell?_alloc_new]
    rfl) 9 Tryd.underlying9
theorem str_one (c : Int) : dl (strOfNums [c]) = [UInt8.ofNat c.toNat] := by rw [dl, strOfNums_data]; rfl
theorem str_size (c : Int) : (strOfNums [c]).size = 1 := by rw [Lib.size_eq]; exact congrArg List.length (str_one c)
/-- a row of eight of the call's own: its block, its cells, none of which is frozen -/
theorem own_all {w : World} {B c : Nat} {A : Option Addr} {ps : List (List UInt8)} (h : w.ownsRow B 9 1 (.slice A 8 c) 8 (sc (ps.map bs))) (h8 : ps.length = 8) : ∃ g, A = some ⟨g, 0, none⟩ ∧ B ≤ g ∧ 8 ≤ c ∧ TRow w g 0 ps ∧ ∀ k, w.frozen? ⟨g, k, none⟩ = false := by
  obtain ⟨b, o, hA, hc, hT⟩ := TRow.of_own h h8 (by decide)
  rcases h.2 with ⟨hv, h2⟩ | ⟨g, cap, cur, hv, hb, hg, _, _, _, _⟩
  · exact absurd h2 (by decide)
  · have e : A = some ⟨g, 0, none⟩ := by injection hv
    rw [hA] at e
    injection e with e
    injection e with e1 e2
    subst e1
    subst e2
    refine ⟨b, hA, hb, hc, hT, fun k => ?_⟩
    unfold World.frozen?
    simp only [hg]
    simp
theorem TRow.set {w : World} {g : Nat} {ps : List (List UInt8)} (h : TRow w g 0 ps) (k : Nat) (p : List UInt8) (hk : k < ps.length) : TRow (w.setCell ⟨g, k, none⟩ (.string (bs p))) g 0 (ps.set k p) := by
  have h1 : (ps.map bs)[k]? = some (bs (ps[k]'hk)) := by rw [List.getElem?_map, List.getElem?_eq_getElem hk]; rfl
  have hc := h.2 k _ h1
  rw [Nat.zero_add] at hc
  refine ⟨by simpa [World.setCell] using h.1, fun j y hy => ?_⟩
  rw [Nat.zero_add]
  rw [List.map_set, List.getElem?_set] at hy
  split at hy
  · rename_i e
    subst e
    rw [if_pos (by rw [List.length_map]; exact hk)] at hy
    obtain rfl := Option.some.inj hy
    exact World.cell?_setCell_same _ _ _ hc
  · rename_i e
    rw [World.cell?_setCell_other _ _ _ _ (fun e2 => e (congrArg Addr.off e2))]
    have := h.2 j y hy
    rwa [Nat.zero_add] at this
theorem frozen_go {w w' : World} {m g k : Nat} (hB : Below m w w') (hg : g < m) : w'.frozen? ⟨g, k, none⟩ = w.frozen? ⟨g, k, none⟩ := by
  unfold World.frozen?
  simp only
  rw [hB.block g hg]
theorem TRow.gob {w w' : World} {b o m : Nat} {ps : List (List UInt8)} (h : TRow w b o ps) (hb : b < m) (hB : Below m w w') (hs : w.heap.size ≤ w'.heap.size) : TRow w' b o ps :=
  ⟨Nat.lt_of_lt_of_le h.1 hs, fun j y hy => (hB.cell (p := ⟨b, o + j, none⟩) hb).trans (h.2 j y hy)⟩
theorem below_set {B : Nat} {a w : World} {g k : Nat} {v : Value} (h : Below B a w) (hB : B ≤ g) : Below B a (w.setCell ⟨g, k, none⟩ v) := below_setCells hB [v] k w h
theorem TRow.far {w : World} {b o g k : Nat} {v : Value} {ps : List (List UInt8)} (h : TRow w b o ps) (hne : ¬ g = b) : TRow (w.setCell ⟨g, k, none⟩ v) b o ps :=
  ⟨by simpa [World.setCell] using h.1, fun j y hy => (World.cell?_setCell_other _ _ _ _ (fun e => hne (congrArg Addr.block e))).trans (h.2 j y hy)⟩
theorem odd_ix : ∀ c : Fin 256, Lib.indexByte hexc (UInt8.ofNat c.1) < 0 → pce [UInt8.ofNat c.1] = none ∧ four [UInt8.ofNat c.1] = none ∧ (58 : UInt8) ∉ [UInt8.ofNat c.1] := by decide +kernel
theorem ts_l1 (b o k c : Nat) (hk : k < 8) (W : World) : (Instr.sliceAt 35 (.slice (some ⟨b, o, none⟩) 8 c) (some (.int .i64 ((k : Int) + 1))) none none).run Tryd.prog W = .ok (.slice (some ⟨b, offc o (k + 1) c, none⟩) (8 - (k + 1)) (c - (k + 1))) W := by
  have := ts_lN b o 8 (k + 1) c hk W
  rw [show ((k + 1 : Nat) : Int) = (k : Int) + 1 by simp] at this
  exact this
theorem size_dl (t : ByteArray) : t.size = (dl t).length := Lib.size_eq t
theorem set_len15 {x : List Nat} (h8 : x.length = 8) (h16 : ∀ m ∈ x, m < 65536) (k : Nat) {f : List UInt8} (hf : f.length ≤ 15) : (jn ((hx x).set k f)).length ≤ 128 := by
  have := jn_len15 ((hx x).set k f) fun p hp => by
    rcases List.mem_or_eq_of_mem_set hp with h | h
    · have := hx_len h16 p h; omega
    · subst h; exact hf
  rw [List.length_set, hx, List.length_map, h8] at this
  exact this
theorem less_len {x : List Nat} (h8 : x.length = 8) (h16 : ∀ m ∈ x, m < 65536) (k : Nat) (hk : k < 8) : (jn ((hx x).take k ++ (hx x).drop (k + 1))).length ≤ 128 := by
  have := jn_len15 ((hx x).take k ++ (hx x).drop (k + 1)) fun p hp => by
    rcases List.mem_append.1 hp with h | h
    · have := hx_len h16 p (List.mem_of_mem_take h); omega
    · have := hx_len h16 p (List.mem_of_mem_drop h); omega
  rw [List.length_append, List.length_take, List.length_drop, hx, List.length_map, h8] at this
  unfold hx
  omega
theorem nine {x : List Nat} (h8 : x.length = 8) (h16 : ∀ m ∈ x, m < 65536) (k : Nat) (hk : k < 8) {f : List UInt8} (hf : f ≠ [] ∧ (58 : UInt8) ∉ f) (h1 : pce f = none) (h2 : four f = none) (h5 : f.length = 5) {sW s5 sL : ByteArray} (hW : bs (jn (hx x)) = sW) (hF : bs (jn ((hx x).set k f)) = s5) (hL : bs (jn ((hx x).take k ++ (hx x).drop (k + 1))) = sL) :
    ∀ t ∈ [sW ++ ⟨#[58]⟩, ⟨#[58]⟩ ++ sW, sW ++ ⟨#[58, 49]⟩, sW ++ ⟨#[58, 58]⟩, ⟨#[58, 58]⟩ ++ sW, s5, sL, ⟨#[58, 58, 58]⟩, ⟨#[49, 58, 58, 58, 50]⟩], t.size ≤ 1000000 ∧ prs (dl t) = none := by
  have eW : dl sW = jn (hx x) := by rw [← hW]; exact bs_data _
  have lW : (jn (hx x)).length ≤ 40 := hx_jn_len h16 (by omega)
  intro t ht
  simp only [List.mem_cons, List.not_mem_nil, or_false] at ht
  rcases ht with rfl | rfl | rfl | rfl | rfl | rfl | rfl | rfl | rfl
  · have e : dl (sW ++ ⟨#[58]⟩) = jn (hx x) ++ [58] := by rw [app_dl, eW] <;> rfl
    exact ⟨by rw [size_dl, e, List.length_append]; simp only [List.length_cons, List.length_nil]; omega, by rw [e]; exact w_colon h8 h16⟩
  · have e : dl (⟨#[58]⟩ ++ sW) = 58 :: jn (hx x) := by rw [app_dl, eW] <;> rfl
    exact ⟨by rw [size_dl, e, List.length_cons]; omega, by rw [e]; exact colon_w h8 h16⟩
  · have e : dl (sW ++ ⟨#[58, 49]⟩) = jn (hx x) ++ [58, 49] := by rw [app_dl, eW] <;> rfl
    exact ⟨by rw [size_dl, e, List.length_append]; simp only [List.length_cons, List.length_nil]; omega, by rw [e]; exact w_one h8 h16⟩
  · have e : dl (sW ++ ⟨#[58, 58]⟩) = jn (hx x) ++ [58, 58] := by rw [app_dl, eW] <;> rfl
    exact ⟨by rw [size_dl, e, List.length_append]; simp only [List.length_cons, List.length_nil]; omega, by rw [e]; exact w_two h8 h16⟩
  · have e : dl (⟨#[58, 58]⟩ ++ sW) = 58 :: 58 :: jn (hx x) := by rw [app_dl, eW] <;> rfl
    exact ⟨by rw [size_dl, e, List.length_cons, List.length_cons]; omega, by rw [e]; exact two_w h8 h16⟩
  · have e : dl (bs (jn ((hx x).set k f))) = jn ((hx x).set k f) := bs_data _
    rw [← hF]
    exact ⟨by rw [size_dl, e]; have := set_len15 h8 h16 k (f := f) (by omega); omega, by rw [e]; exact set_bad h8 h16 k hk hf h1 h2⟩
  · have e : dl (bs (jn ((hx x).take k ++ (hx x).drop (k + 1)))) = jn ((hx x).take k ++ (hx x).drop (k + 1)) := bs_data _
    rw [← hL]
    exact ⟨by rw [size_dl, e]; have := less_len h8 h16 k hk; omega, by rw [e]; exact less_bad h8 h16 k hk⟩
  · exact ⟨by decide, three_bad⟩
  · exact ⟨by decide, three_in⟩
theorem str_bs (c : Int) : strOfNums [c] = bs [UInt8.ofNat c.toNat] := bytes_ext.2 ((str_one c).trans (bs_data _).symm)
end Go.Proofs.YtcoppicieicikaaDoor.Sx
