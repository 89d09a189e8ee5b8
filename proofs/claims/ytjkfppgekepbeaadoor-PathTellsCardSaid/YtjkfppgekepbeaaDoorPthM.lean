/-
  strings.Contains, strings.Join laid; how long a path's text is; fascialaw16: joined.
-/
import Derived.Test.YtjkfppgekepbeaaDoorPthL
import Derived.Shelf.Strings.Search3
namespace Go.Proofs.YtjkfppgekepbeaaDoor.Pth
set_option maxRecDepth 100000
open Go.RowKit Go.Shelf Utf Ut Hst

def ctnLaid_ren : Ren := ⟨fun | 144 => 23 | 143 => 39 | 219 => 60 | 217 => 74 | 225 => 75 | 224 => 76 | 267 => 77 | 266 => 88 | 314 => 89 | n => n, fun | 9 => 9 | 4 => 4 | 3 => 3 | 5 => 5 | 46 => 74 | 146 => 98 | 51 => 97 | n => n, fun | 1 => 0 | n => n⟩
theorem ctnLaid : Lays.n144 Tryd.prog ctnLaid_ren := {
  mixed := by kernel_rfl
  f143 := by kernel_rfl
  f144 := by kernel_rfl
  f217 := by kernel_rfl
  f219 := by kernel_rfl
  f224 := by kernel_rfl
  f225 := by kernel_rfl
  f266 := by kernel_rfl
  f267 := by kernel_rfl
  f314 := by kernel_rfl
  t3 := Tryd.underlying3
  a3 := Tryd.isAgg3
  z3 := Tryd.sizeOf3
  v3 := Tryd.zeroValue3
  t4 := Tryd.underlying4
  a4 := Tryd.isAgg4
  z4 := Tryd.sizeOf4
  v4 := Tryd.zeroValue4
  t5 := Tryd.underlying5
  a5 := Tryd.isAgg5
  z5 := Tryd.sizeOf5
  v5 := Tryd.zeroValue5
  t9 := Tryd.underlying9
  a9 := Tryd.isAgg9
  z9 := Tryd.sizeOf9
  v9 := Tryd.zeroValue9
  t46 := Tryd.underlying74
  a46 := Tryd.isAgg74
  z46 := Tryd.sizeOf74
  v46 := Tryd.zeroValue74
  t51 := Tryd.underlying97
  a51 := Tryd.isAgg97
  z51 := Tryd.sizeOf97
  v51 := Tryd.zeroValue97
  t146 := Tryd.underlying98
  a146 := Tryd.isAgg98
  z146 := Tryd.sizeOf98
  v146 := Tryd.zeroValue98
  g1 := by kernel_rfl
}
def joinLaid_ren : Ren := ⟨fun | 156 => 40 | 165 => 46 | 166 => 47 | 169 => 49 | 240 => 65 | 241 => 66 | 276 => 84 | 277 => 85 | n => n, fun | 31 => 23 | 9 => 9 | 3 => 3 | 4 => 4 | 0 => 0 | 20 => 20 | 72 => 61 | 76 => 65 | 70 => 59 | 37 => 40 | 75 => 64 | 127 => 78 | 164 => 91 | 5 => 5 | 80 => 68 | n => n, fun n => n⟩
theorem joinLaid : Lays.n156 Tryd.prog joinLaid_ren := {
  mixed := by kernel_rfl
  f156 := by kernel_rfl
  f165 := by kernel_rfl
  f166 := by kernel_rfl
  f169 := by kernel_rfl
  f240 := by kernel_rfl
  f241 := by kernel_rfl
  f276 := by kernel_rfl
  f277 := by kernel_rfl
  t0 := Tryd.underlying0
  a0 := Tryd.isAgg0
  z0 := Tryd.sizeOf0
  v0 := Tryd.zeroValue0
  t3 := Tryd.underlying3
  a3 := Tryd.isAgg3
  z3 := Tryd.sizeOf3
  v3 := Tryd.zeroValue3
  t4 := Tryd.underlying4
  a4 := Tryd.isAgg4
  z4 := Tryd.sizeOf4
  v4 := Tryd.zeroValue4
  t9 := Tryd.underlying9
  a9 := Tryd.isAgg9
  z9 := Tryd.sizeOf9
  v9 := Tryd.zeroValue9
  t20 := Tryd.underlying20
  a20 := Tryd.isAgg20
  z20 := Tryd.sizeOf20
  v20 := Tryd.zeroValue20
  t31 := Tryd.underlying23
  a31 := Tryd.isAgg23
  z31 := Tryd.sizeOf23
  v31 := Tryd.zeroValue23
  t37 := Tryd.underlying40
  a37 := Tryd.isAgg40
  z37 := Tryd.sizeOf40
  v37 := Tryd.zeroValue40
  t70 := Tryd.underlying59
  a70 := Tryd.isAgg59
  z70 := Tryd.sizeOf59
  v70 := Tryd.zeroValue59
  t72 := Tryd.underlying61
  a72 := Tryd.isAgg61
  z72 := Tryd.sizeOf61
  v72 := Tryd.zeroValue61
  t75 := Tryd.underlying64
  a75 := Tryd.isAgg64
  z75 := Tryd.sizeOf64
  v75 := Tryd.zeroValue64
  t76 := Tryd.underlying65
  a76 := Tryd.isAgg65
  z76 := Tryd.sizeOf65
  v76 := Tryd.zeroValue65
  t127 := Tryd.underlying78
  a127 := Tryd.isAgg78
  z127 := Tryd.sizeOf78
  v127 := Tryd.zeroValue78
  t164 := Tryd.underlying91
  a164 := Tryd.isAgg91
  z164 := Tryd.sizeOf91
  v164 := Tryd.zeroValue91
}

theorem joinExtra : Builder.Extra Tryd.prog joinLaid_ren where
  sizeBuilder := by kernel_rfl
  liesBuilder := by kernel_rfl
  t5 := Tryd.underlying5
  a5 := Tryd.isAgg5
  z5 := Tryd.sizeOf5
  v5 := Tryd.zeroValue5
  infoByte := by kernel_rfl
  cellsByte := by kernel_rfl
  sizeByte := by kernel_rfl
  neB5 := by decide
theorem Contains_no (s : ByteArray) (c : UInt8) (h : c ∉ dl s) (w : World) : Calls Tryd.prog 23 #[.string s, .string ⟨#[c]⟩] w (fun e w' => e = .returned (.bool false) ∧ w = w') :=
  (Any.strings_Contains_one ctnLaid s c w).mono fun e w' ⟨he, hw⟩ => ⟨by
    rw [he]
    have : Lib.indexByte s.data.toList c = -1 := idx_none _ _ fun b hb e => h (e ▸ hb)
    rw [this]
    rfl, hw.symm⟩
/-- how long a path's text may be -/
def tot : List ByteArray → Nat
  | [] => 0
  | s :: t => s.size + 1 + tot t
theorem tot_app : ∀ a b, tot (a ++ b) = tot a + tot b
  | [], b => by simp [tot]
  | s :: t, b => by rw [List.cons_append, tot, tot, tot_app t b]; omega
theorem tot_mem : ∀ {l : List ByteArray} {s : ByteArray}, s ∈ l → s.size + 1 ≤ tot l
  | x :: t, s, h => by
    rw [tot]
    rcases List.mem_cons.1 h with rfl | h
    · omega
    · have := tot_mem h
      omega
theorem tot_ge : ∀ Q : List ByteArray, Q.length ≤ tot Q
  | [] => Nat.le_refl _
  | x :: t => by
    have := tot_ge t
    rw [tot, List.length_cons]
    omega
theorem tot_shr (fl : Bool) (l : List ByteArray) : tot (shr fl l) ≤ tot l := by
  obtain ⟨t, ht⟩ := shr_pre fl l
  conv => rhs; rw [ht, tot_app]
  omega
theorem tot_blank (l : List ByteArray) (b : Bool) : tot (l ++ if b = true then [ByteArray.empty] else []) ≤ tot l + 1 := by
  cases b
  · simp
  · rw [if_pos rfl, tot_app]
    exact Nat.le_refl _
theorem nrm_size (p : List Int) : (nrm p).size = 2 := by
  rw [Lib.size_eq, nrm, strOfNums_data, List.length_map]
  rfl
theorem tot_stp (fl : Bool) (l : List ByteArray) (p : List Int) (b : Bool) : tot (stp fl l p b) ≤ tot l + (12 * p.length + 1) := by
  unfold stp
  split
  · have h1 := tot_blank (shr fl l) b
    have h2 := tot_shr fl l
    omega
  · split
    · have h1 := tot_blank l b
      omega
    · split
      · rename_i h
        simp only [Bool.and_eq_true] at h
        obtain ⟨x, y, rfl, _, _⟩ := drv_cases h.2
        rw [tot_app, tot, nrm_size]
        simp [tot]
      · have := sg_size p
        rw [tot_app, tot]
        simp only [tot]
        omega
def wt : List (List Int × Bool) → Nat
  | [] => 0
  | y :: t => 12 * y.1.length + 1 + wt t
theorem tot_wgo (fl : Bool) : ∀ (x : List (List Int × Bool)) (l : List ByteArray), tot (wgo fl l x) ≤ tot l + wt x
  | [], _ => Nat.le_refl _
  | y :: t, l => by
    have h1 := tot_stp fl l y.1 y.2
    have h2 := tot_wgo fl t (stp fl l y.1 y.2)
    show tot (wgo fl (stp fl l y.1 y.2) t) ≤ _
    rw [wt]
    omega
def wp : List (List Int) → Nat
  | [] => 0
  | p :: t => 12 * p.length + 1 + wp t
theorem wt_mk : ∀ a, wt (mk a) = wp a
  | [] => rfl
  | [p] => rfl
  | p :: q :: t => by rw [mk, wt, wt_mk (q :: t)]; rfl
theorem wp_prt (sp : Bool) : ∀ t, wp (prt sp t) ≤ 12 * t.length + 12
  | [] => by simp [prt, wp]
  | r :: t => by
    have ih := wp_prt sp t
    rw [prt_cons]
    split
    · rw [wp]
      simp
      omega
    · cases h : prt sp t with
      | nil => exact absurd h (prt_ne sp t)
      | cons p q =>
        rw [h] at ih
        simp only [wp, List.length_cons] at ih ⊢
        omega
theorem tot_wlk (sp fl : Bool) (l : List ByteArray) (t : List Int) : tot (wlk sp fl l t) ≤ tot l + (12 * t.length + 12) := by
  have h1 := tot_wgo fl (mk (prt sp t)) l
  have h2 := wp_prt sp t
  rw [wt_mk] at h1
  unfold wlk
  omega
theorem bi_app (a b : List UInt8) : bi (a ++ b) = bi a ++ bi b := List.map_append
theorem bi_len (a : List UInt8) : (bi a).length = a.length := List.length_map ..
theorem bi_join : ∀ P : List ByteArray, bi (Lib.join (P.map dl) [47]) = txt P
  | [] => rfl
  | [s] => by rw [List.map_cons, List.map_nil, Lib.join_one]; rfl
  | s :: t :: u => by
    have ih := bi_join (t :: u)
    have e : Lib.join ((s :: t :: u).map dl) [47] = dl s ++ [47] ++ Lib.join ((t :: u).map dl) [47] := by
      rw [List.map_cons, List.map_cons, Lib.join_cons, Lib.join_cons]
      simp [Lib.joinTail]
    rw [e, bi_app, bi_app, ih, txt]
    simp [bi]
theorem txt_len : ∀ P : List ByteArray, (txt P).length ≤ tot P
  | [] => Nat.le_refl _
  | [s] => by
    rw [txt, bi_len, tot]
    have : (dl s).length = s.size := by simp [dl]
    omega
  | s :: t :: u => by
    have ih := txt_len (t :: u)
    rw [txt, tot, List.length_append, List.length_cons, bi_len]
    have : (dl s).length = s.size := by simp [dl]
    omega
theorem join_asc {P : List ByteArray} (h : ∀ s ∈ P, ∀ b ∈ dl s, b.toNat < 128) : ∀ b ∈ Lib.join (P.map dl) [47], b.toNat < 128 := by
  induction P with
  | nil => intro b hb; cases hb
  | cons s t ih =>
    cases t with
    | nil =>
      rw [List.map_cons, List.map_nil, Lib.join_one]
      exact h s (List.mem_cons_self ..)
    | cons x u =>
      have e : Lib.join ((s :: x :: u).map dl) [47] = dl s ++ [47] ++ Lib.join ((x :: u).map dl) [47] := by
        rw [List.map_cons, List.map_cons, Lib.join_cons, Lib.join_cons]
        simp [Lib.joinTail]
      rw [e]
      intro b hb
      rw [List.mem_append, List.mem_append] at hb
      rcases hb with (hb | hb) | hb
      · exact h s (List.mem_cons_self ..) b hb
      · rw [List.mem_singleton] at hb
        rw [hb]
        decide
      · exact ih (fun y hy => h y (List.mem_cons_of_mem _ hy)) b hb
theorem Sgm.asc {sp : Bool} {s : ByteArray} (h : Sgm sp s) : ∀ b ∈ dl s, b.toNat < 128 := by
  intro b hb
  have := okc_byt (h.ok (b.toNat : Int) (List.mem_map.2 ⟨b, hb, rfl⟩))
  omega
/-- a path's text, as code points -/
def JndR (P : List ByteArray) (w : World) (e : Ending) (w' : World) : Prop := ∃ A c, e = .returned (.slice A (txt P).length c) ∧ (txt P).length ≤ c ∧ Row w' w'.heap.size A (cl .i32 (txt P)) ∧ Below w.heap.size w w'
set_option maxHeartbeats 1000000 in
theorem joined_any (P : List ByteArray) (hne : P ≠ []) (ha : ∀ s ∈ P, ∀ b ∈ dl s, b.toNat < 128) (ht : tot P ≤ 100000) (A : Option Addr) (n c : Nat) (w : World) (hn : P.length = n) (hc : n ≤ c) (hr : Row w w.heap.size A (sx P)) : Calls Tryd.prog 24 #[.slice A n c] w (JndR P w) := by
  have hpos : 0 < P.length := List.length_pos_iff.2 hne
  obtain ⟨b, o, rfl, hb, hcc⟩ := hr.at_ (by simpa using hpos)
  have htl := txt_len P
  have hjl : (Lib.join (P.map dl) [47]).length = (txt P).length := by rw [← bi_join, bi_len]
  have hln : P.length ≤ tot P := tot_ge P
  have HJ := Lib.hid (Any.strings_Join joinLaid joinExtra b o c P ⟨#[47]⟩ w (fun j x hx => by
    rw [hcc j (by rw [List.length_map]; exact (List.getElem?_eq_some_iff.1 hx).1), List.getElem?_map, hx]
    rfl) hb (by omega) (by omega) (by show (Lib.join (P.map dl) [47]).length ≤ _; omega))
  rw [hn] at HJ
  obtain ⟨S, hS⟩ : ∃ S, (⟨(Lib.join (P.map dl) [47]).toArray⟩ : ByteArray) = S := ⟨_, rfl⟩
  have hdS : dl S = Lib.join (P.map dl) [47] := by rw [← hS]
  have hss : S.size = (txt P).length := by
    rw [Lib.size_eq, ← hjl, ← hdS]
  have hrn : rn S = txt P := by
    rw [rn_asc (by rw [hdS]; exact join_asc ha), hdS, bi_join]
  have HC := Lib.hid (fun W => conv_all S W (by omega))
  rw [hrn] at HC
  have HJ2 : Hid (Calls Tryd.prog 40 #[.slice (some ⟨b, o, none⟩) n c, .string ⟨#[47]⟩] w fun e w' => e = .returned (.string S) ∧ Below w.heap.size w w') := Lib.hid (by
    rw [← hS]
    exact HJ.out)
  obtain ⟨T, hT⟩ : ∃ T, txt P = T := ⟨_, rfl⟩
  unfold JndR
  rw [hT] at HC ⊢
  obtain ⟨k, hk⟩ : ∃ k, T.length = k := ⟨_, rfl⟩
  rw [hk] at HC ⊢
  clear HJ hrn hss hdS hS hjl htl hcc hpos hT hk hn hr
  go_enter Tryd.func24, Tryd.ntmps24
  go_wp2_with (first
    | (go_at_call 40; refine HJ2.out.mono ?_; rintro e w1 ⟨rfl, hB1⟩; obtain ⟨W2, c2, hcv, hc2, hr2, hB2⟩ := HC.out w1)
    | fail)
  go_ret
  exact ⟨_, c2, rfl, hc2, hr2, upB hB1 hB2⟩
end Go.Proofs.YtjkfppgekepbeaaDoor.Pth
