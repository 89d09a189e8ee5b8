/-
  path as mathematics: what a walk from no path on tells, and walked again.
-/
import Derived.Test.YtjkfppgekepbeaaDoorPthA
namespace Go.Proofs.YtjkfppgekepbeaaDoor.Pth
set_option maxRecDepth 100000
open Go.RowKit Utf Ut Hst

/-- what no code point of a coded part is -/
def okc (c : Int) : Bool := decide (0 ≤ c ∧ c < 128) && !(inP c)
theorem dgU_ok : ∀ k : Fin 16, okc (dgU (k.1 : Int)) = true ∧ dgU (k.1 : Int) ≠ 47 ∧ dgU (k.1 : Int) ≠ 92 := by decide
theorem cds_ok {l : List Int} (hl : Byt l) : ∀ c ∈ cds l, okc c = true ∧ c ≠ 47 ∧ c ≠ 92 := by
  intro c hc
  obtain ⟨b, hb, hcb⟩ := List.mem_flatMap.1 hc
  have hbb := hl b hb
  obtain ⟨n, rfl⟩ := Int.eq_ofNat_of_zero_le hbb.1
  have h1 := dgU_ok ⟨n / 16, by omega⟩
  have h2 := dgU_ok ⟨n % 16, by omega⟩
  simp only [cd3, List.mem_cons, List.not_mem_nil, or_false] at hcb
  rcases hcb with rfl | rfl | rfl
  · decide
  · simpa using h1
  · simpa using h2
theorem pP_ok (r : Int) : ∀ c ∈ pP r, okc c = true ∧ (c = 47 → r = 47) ∧ (c = 92 → r = 92) := by
  intro c hc
  unfold pP at hc
  split at hc
  · have := cds_ok (encOne_byt r) c hc
    exact ⟨this.1, fun e => absurd e this.2.1, fun e => absurd e this.2.2⟩
  · rename_i h
    rw [List.mem_singleton] at hc
    subst hc
    have h' : inP c = false := by simpa using h
    refine ⟨?_, id, id⟩
    unfold okc
    rw [h']
    unfold inP at h'
    rw [Bool.or_eq_false_iff] at h'
    have := of_decide_eq_false h'.1
    rw [decide_eq_true (by omega)]
    rfl
theorem pe_ok (l : List Int) : ∀ c ∈ pe l, okc c = true ∧ (c = 47 → 47 ∈ l) ∧ (c = 92 → 92 ∈ l) := by
  intro c hc
  obtain ⟨r, hr, hcr⟩ := List.mem_flatMap.1 hc
  have := pP_ok r c hcr
  exact ⟨this.1, fun e => by rw [← this.2.1 e]; exact hr, fun e => by rw [← this.2.2 e]; exact hr⟩
theorem okc_byt {c : Int} (h : okc c = true) : 0 ≤ c ∧ c < 128 ∧ inP c = false := by
  unfold okc at h
  rw [Bool.and_eq_true] at h
  have := of_decide_eq_true h.1
  exact ⟨this.1, this.2, by simpa using h.2⟩
/-- what is coded is not coded again -/
theorem pe_fix : ∀ {l : List Int}, (∀ c ∈ l, okc c = true) → pe l = l
  | [], _ => rfl
  | c :: t, h => by
    have h1 := (okc_byt (h c (List.mem_cons_self ..))).2.2
    rw [pe, List.flatMap_cons, pP, if_neg (by rw [h1]; decide)]
    have := pe_fix (l := t) (fun x hx => h x (List.mem_cons_of_mem _ hx))
    rw [pe] at this
    rw [this]
    rfl
theorem bi_of {l : List Int} (h : Byt l) : bi (dl (strOfNums l)) = l := by
  unfold bi
  show ((strOfNums l).data.toList).map _ = l
  rw [strOfNums_data, List.map_map]
  conv => rhs; rw [← List.map_id l]
  refine List.map_congr_left fun x hx => ?_
  have := h x hx
  obtain ⟨n, rfl⟩ := Int.eq_ofNat_of_zero_le this.1
  show ((UInt8.ofNat (n : Int).toNat).toNat : Int) = n
  rw [Int.toNat_natCast, UInt8.toNat_ofNat']
  omega
theorem of_bi (s : ByteArray) : strOfNums (bi (dl s)) = s := by
  apply ByteArray.ext
  apply Array.toList_inj.1
  rw [strOfNums_data]
  unfold bi
  rw [List.map_map]
  conv => rhs; rw [← List.map_id s.data.toList]
  refine List.map_congr_left fun x _ => ?_
  show UInt8.ofNat ((x.toNat : Int)).toNat = x
  rw [Int.toNat_natCast]
  exact UInt8.ofNat_toNat
theorem okc_Byt {l : List Int} (h : ∀ c ∈ l, okc c = true) : Byt l := fun c hc => by
  have := okc_byt (h c hc)
  omega
/-- a segment that a walk tells -/
structure Sgm (sp : Bool) (s : ByteArray) : Prop where
  ok : ∀ c ∈ bi (dl s), okc c = true
  one : sgl s = false
  two : dbl s = false
  slash : ∀ c ∈ bi (dl s), sep sp c = false
theorem Sgm.again {sp : Bool} {s : ByteArray} (h : Sgm sp s) : sg (bi (dl s)) = s := by
  unfold sg
  rw [pe_fix h.ok, of_bi]
theorem bi_empty : bi (dl ByteArray.empty) = [] := rfl
theorem Sgm.empty (sp : Bool) : Sgm sp ByteArray.empty where
  ok := by rw [bi_empty]; intro c hc; cases hc
  one := by decide
  two := by decide
  slash := by rw [bi_empty]; intro c hc; cases hc
theorem Sgm.of_sg {sp : Bool} {p : List Int} (hp : ∀ r ∈ p, sep sp r = false) (h1 : sgl (sg p) = false) (h2 : dbl (sg p) = false) : Sgm sp (sg p) := by
  have hb : bi (dl (sg p)) = pe p := bi_of (okc_Byt fun c hc => (pe_ok p c hc).1)
  refine ⟨by rw [hb]; exact fun c hc => (pe_ok p c hc).1, h1, h2, ?_⟩
  rw [hb]
  intro c hc
  have := pe_ok p c hc
  cases hs : sep sp c with
  | false => rfl
  | true =>
    unfold sep at hs
    rw [Bool.or_eq_true, Bool.and_eq_true, beq_iff_eq, beq_iff_eq] at hs
    rcases hs with e | ⟨e1, e⟩
    · have := hp 47 (this.2.1 e)
      unfold sep at this
      cases sp <;> simp at this
    · have := hp 92 (this.2.2 e)
      unfold sep at this
      rw [e1] at this
      cases this
theorem ltr_fin : ∀ k : Fin 128, ltr (k.1 : Int) = true → okc (k.1 : Int) = true ∧ sep true (k.1 : Int) = false := by decide
theorem ltr_rng {a : Int} (h : ltr a = true) : 65 ≤ a ∧ a ≤ 122 := by
  unfold ltr at h
  rw [Bool.or_eq_true] at h
  rcases h with h | h
  · have := of_decide_eq_true h; omega
  · have := of_decide_eq_true h; omega
theorem sep_le {sp : Bool} {c : Int} (h : sep true c = false) : sep sp c = false := by
  unfold sep at h ⊢
  cases sp <;> simp_all
theorem drv_cases {p : List Int} (h : drv p = true) : ∃ a b, p = [a, b] ∧ ltr a = true ∧ (b = 58 ∨ b = 124) := by
  match p, h with
  | [a, b], h =>
    simp only [drv, Bool.and_eq_true, Bool.or_eq_true, beq_iff_eq] at h
    exact ⟨a, b, rfl, h.1, h.2⟩
theorem bi_nrm {a b : Int} (h : ltr a = true) : bi (dl (nrm [a, b])) = [a, 58] := bi_of (fun x hx => by
  have := ltr_rng h
  simp only [List.headD_cons, List.mem_cons, List.not_mem_nil, or_false] at hx
  omega)
theorem len_two {s : ByteArray} {a b : Int} (h : bi (dl s) = [a, b]) : (dl s).length = 2 := by
  have := congrArg List.length h
  simpa [bi] using this
theorem low_two : ∀ {l : List UInt8} {x : UInt8}, l.length = 2 → x ∈ l → x = 58 → sglL l = false ∧ dblL l = false := by
  intro l x hl hx h58
  subst h58
  match l, hl with
  | [a, b], _ =>
    have e58 : Lib.lowerB 58 = 58 := by decide
    have hn : ∀ y : UInt8, y ≠ 58 → True := fun _ _ => trivial
    have hm : (58 : UInt8) ∈ Lib.toLowerA [a, b] := by
      unfold Lib.toLowerA
      exact List.mem_map.2 ⟨58, hx, e58⟩
    have key : ∀ t : List UInt8, (58 : UInt8) ∉ t → decide (Lib.toLowerA [a, b] = t) = false := fun t ht => decide_eq_false fun e => ht (e ▸ hm)
    unfold sglL dblL
    rw [key [46] (by decide), key [37, 50, 101] (by decide), key [46, 46] (by decide), key [46, 37, 50, 101] (by decide), key [37, 50, 101, 46] (by decide), key [37, 50, 101, 37, 50, 101] (by decide)]
    exact ⟨rfl, rfl⟩
theorem Sgm.of_nrm {sp : Bool} {p : List Int} (h : drv p = true) : Sgm sp (nrm p) := by
  obtain ⟨a, b, rfl, ha, _⟩ := drv_cases h
  have hb := bi_nrm (b := b) ha
  have hr := ltr_rng ha
  obtain ⟨n, rfl⟩ := Int.eq_ofNat_of_zero_le (show 0 ≤ a by omega)
  have hf := ltr_fin ⟨n, by omega⟩ ha
  have h58 : (58 : UInt8) ∈ dl (nrm [(n : Int), b]) := by
    have : (58 : Int) ∈ bi (dl (nrm [(n : Int), b])) := by rw [hb]; simp
    obtain ⟨c, hc, e⟩ := List.mem_map.1 this
    have : c = 58 := UInt8.toNat_inj.1 (by show c.toNat = 58; omega)
    exact this ▸ hc
  have := low_two (len_two hb) h58 rfl
  refine ⟨?_, this.1, this.2, ?_⟩
  · rw [hb]
    intro c hc
    simp only [List.mem_cons, List.not_mem_nil, or_false] at hc
    rcases hc with rfl | rfl
    · exact hf.1
    · decide
  · rw [hb]
    intro c hc
    simp only [List.mem_cons, List.not_mem_nil, or_false] at hc
    rcases hc with rfl | rfl
    · exact sep_le hf.2
    · exact sep_le (by decide)
theorem nmd_iff {s : ByteArray} {a : Int} (h : bi (dl s) = [a, 58]) (ha : ltr a = true) : nmd s = true := by
  unfold nmd
  have h2 := len_two h
  obtain ⟨l, hl⟩ : ∃ l, dl s = l := ⟨_, rfl⟩
  rw [hl] at h h2 ⊢
  match l, h2 with
  | [x, y], _ =>
    simp only [bi, List.map_cons, List.map_nil, List.cons.injEq, and_true] at h
    obtain ⟨h1, h2⟩ := h
    have : y = 58 := UInt8.toNat_inj.1 (by show y.toNat = 58; omega)
    subst this
    show ((58 : UInt8) == 58 && ltr _) = true
    rw [h1, ha]
    rfl
/-- what a walk from no path on keeps -/
def Good (sp fl : Bool) (l : List ByteArray) : Prop := (∀ s ∈ l, Sgm sp s) ∧ (fl = true → ∀ x t, l = x :: t → drv (bi (dl x)) = true → nrm (bi (dl x)) = x)
theorem shr_pre (fl : Bool) (l : List ByteArray) : ∃ t, l = shr fl l ++ t := by
  unfold shr
  split
  · exact ⟨[], by simp⟩
  · rcases List.eq_nil_or_concat l with rfl | ⟨A, x, rfl⟩
    · exact ⟨[], rfl⟩
    · exact ⟨[x], by simp⟩
theorem Good.nil (sp fl : Bool) : Good sp fl [] := ⟨fun s hs => (List.not_mem_nil hs).elim, fun _ x t h => by cases h⟩
theorem Good.pre {sp fl : Bool} {l a b : List ByteArray} (h : Good sp fl l) (e : l = a ++ b) : Good sp fl a := by
  subst e
  refine ⟨fun s hs => h.1 s (List.mem_append_left _ hs), fun hf x t ht hd => h.2 hf x (t ++ b) (by rw [ht]; rfl) hd⟩
theorem Good.snoc {sp fl : Bool} {l : List ByteArray} {s : ByteArray} (h : Good sp fl l) (hs : Sgm sp s) (hf : fl = true → l = [] → drv (bi (dl s)) = true → nrm (bi (dl s)) = s) : Good sp fl (l ++ [s]) := by
  refine ⟨fun x hx => ?_, fun hfl x t ht hd => ?_⟩
  · rcases List.mem_append.1 hx with hx | hx
    · exact h.1 x hx
    · rw [List.mem_singleton] at hx
      exact hx ▸ hs
  · cases l with
    | nil =>
      rw [List.nil_append, List.cons.injEq] at ht
      obtain ⟨rfl, rfl⟩ := ht
      exact hf hfl rfl hd
    | cons y u =>
      rw [List.cons_append, List.cons.injEq] at ht
      obtain ⟨rfl, _⟩ := ht
      exact h.2 hfl y u rfl hd
theorem Good.blank {sp fl : Bool} {l : List ByteArray} (h : Good sp fl l) (b : Bool) : Good sp fl (l ++ if b = true then [ByteArray.empty] else []) := by
  cases b
  · simpa using h
  · exact h.snoc (.empty sp) (fun _ _ hd => by rw [bi_empty] at hd; cases hd)
theorem pP_pos (r : Int) : 1 ≤ (pP r).length := by
  unfold pP
  split
  · rw [cds_len]; have := (encOne_len r).1; omega
  · simp
theorem pe_cons (r : Int) (t : List Int) : pe (r :: t) = pP r ++ pe t := by rw [pe, List.flatMap_cons]; rfl
theorem pe_two {p : List Int} {a b : Int} (h : pe p = [a, b]) (ha : a ≠ 37) : p = [a, b] := by
  match p, h with
  | [], h => simp [pe] at h
  | r :: t, h =>
    rw [pe_cons] at h
    by_cases hr : inP r = true
    · rw [pP, if_pos hr] at h
      have h1 := (encOne_len r).1
      match he : encOne r, h1 with
      | c :: u, _ =>
        rw [he, cds, List.flatMap_cons, cd3] at h
        simp only [List.cons_append, List.cons.injEq] at h
        exact absurd h.1.symm ha
    · rw [pP, if_neg hr, List.singleton_append, List.cons.injEq] at h
      obtain ⟨rfl, h2⟩ := h
      match t, h2 with
      | [], h => cases h
      | q :: v, h =>
        rw [pe_cons] at h
        have hq1 := pP_pos q
        have hv : v = [] := by
          match v with
          | [] => rfl
          | z :: v =>
            have h2 := congrArg List.length h
            rw [pe_cons, List.length_append, List.length_append] at h2
            have := pP_pos z
            simp at h2
            omega
        subst hv
        rw [show pe [] = [] from rfl, List.append_nil] at h
        by_cases hq : inP q = true
        · rw [pP, if_pos hq] at h
          have h2 := congrArg List.length h
          rw [cds_len] at h2
          simp at h2
          omega
        · rw [pP, if_neg hq, List.cons.injEq] at h
          rw [h.1]
theorem Good.stp {sp fl : Bool} {l : List ByteArray} {p : List Int} (h : Good sp fl l) (hp : ∀ r ∈ p, sep sp r = false) (b : Bool) : Good sp fl (stp fl l p b) := by
  unfold Pth.stp
  split
  · obtain ⟨t, ht⟩ := shr_pre fl l
    exact (h.pre ht).blank b
  · rename_i hd
    split
    · exact h.blank b
    · rename_i hs
      have hd' : dbl (sg p) = false := by simpa using hd
      have hs' : sgl (sg p) = false := by simpa using hs
      split
      · rename_i hx
        simp only [Bool.and_eq_true] at hx
        obtain ⟨x, y, rfl, hx1, _⟩ := drv_cases hx.2
        refine h.snoc (.of_nrm hx.2) (fun _ _ _ => ?_)
        rw [bi_nrm hx1]
        rfl
      · rename_i hx
        refine h.snoc (.of_sg hp hs' hd') (fun hf hl hdr => ?_)
        exfalso
        apply hx
        have hb : bi (dl (sg p)) = pe p := bi_of (okc_Byt fun c hc => (pe_ok p c hc).1)
        rw [hb] at hdr
        obtain ⟨x, y, hxy, hx1, hy⟩ := drv_cases hdr
        have := pe_two hxy (by have := ltr_rng hx1; omega)
        subst this
        rw [hf, hl, ← hxy, hdr]
        rfl
theorem wgo_good {sp fl : Bool} : ∀ (x : List (List Int × Bool)) (l : List ByteArray), Good sp fl l → (∀ y ∈ x, ∀ r ∈ y.1, sep sp r = false) → Good sp fl (wgo fl l x)
  | [], _, h, _ => h
  | y :: t, _, h, hy => wgo_good t _ (h.stp (hy y (List.mem_cons_self ..)) y.2) (fun z hz => hy z (List.mem_cons_of_mem _ hz))
theorem mk_mem : ∀ (a : List (List Int)), ∀ y ∈ mk a, y.1 ∈ a
  | [p], y, hy => by rw [mk, List.mem_singleton] at hy; subst hy; exact List.mem_cons_self ..
  | p :: q :: t, y, hy => by
    rw [mk] at hy
    rcases List.mem_cons.1 hy with rfl | hy
    · exact List.mem_cons_self ..
    · exact List.mem_cons_of_mem _ (mk_mem (q :: t) y hy)
theorem wlk_good (sp fl : Bool) (t : List Int) : Good sp fl (wlk sp fl [] t) :=
  wgo_good _ _ (.nil sp fl) fun y hy r hr => (prt_free y.1 (mk_mem _ y hy) r hr).1
theorem stp_last_ne (fl : Bool) (l : List ByteArray) (p : List Int) : stp fl l p true ≠ [] := by
  unfold stp
  rw [if_pos rfl]
  split
  · simp
  · split
    · simp
    · split <;> simp
theorem wlk_ne (sp fl : Bool) (l : List ByteArray) (t : List Int) : wlk sp fl l t ≠ [] := by
  unfold wlk
  rcases List.eq_nil_or_concat (prt sp t) with h | ⟨A, x, h⟩
  · exact absurd h (prt_ne sp t)
  · rw [h, List.concat_eq_append, mk_snoc, wgo_app]
    exact stp_last_ne fl _ x
/-- a path's text -/
def txt : List ByteArray → List Int
  | [] => []
  | [s] => bi (dl s)
  | s :: t :: u => bi (dl s) ++ 47 :: txt (t :: u)
theorem prt_txt (sp : Bool) : ∀ (l : List ByteArray), l ≠ [] → (∀ s ∈ l, Sgm sp s) → prt sp (txt l) = l.map fun s => bi (dl s)
  | [s], _, h => by rw [txt, prt_none (h s (List.mem_cons_self ..)).slash]; rfl
  | s :: t :: u, _, h => by
    rw [txt, prt_app (h s (List.mem_cons_self ..)).slash (by unfold sep; simp), prt_txt sp (t :: u) (by simp) (fun x hx => h x (List.mem_cons_of_mem _ hx))]
    rfl
theorem stp_again {sp fl : Bool} {l : List ByteArray} {s : ByteArray} (hs : Sgm sp s) (hf : fl = true → l = [] → drv (bi (dl s)) = true → nrm (bi (dl s)) = s) (b : Bool) : stp fl l (bi (dl s)) b = l ++ [s] := by
  rw [stp_plain (by rw [hs.again]; exact hs.two) (by rw [hs.again]; exact hs.one), hs.again]
  split
  · rename_i h
    simp only [Bool.and_eq_true, List.isEmpty_iff] at h
    rw [hf h.1.1 h.1.2 h.2]
  · rfl
theorem wgo_again {sp fl : Bool} : ∀ (p l : List ByteArray), (∀ s ∈ p, Sgm sp s) → (fl = true → l = [] → ∀ x t, p = x :: t → drv (bi (dl x)) = true → nrm (bi (dl x)) = x) → wgo fl l (mk (p.map fun s => bi (dl s))) = l ++ p
  | [], l, _, _ => by rw [List.append_nil]; rfl
  | [s], l, h, hf => stp_again (h s (List.mem_cons_self ..)) (fun h1 h2 => hf h1 h2 s [] rfl) true
  | s :: t :: u, l, h, hf => by
    have h1 := stp_again (h s (List.mem_cons_self ..)) (fun h1 h2 => hf h1 h2 s _ rfl) false
    have ih := wgo_again (t :: u) (l ++ [s]) (fun x hx => h x (List.mem_cons_of_mem _ hx)) (fl := fl) (fun _ h2 => by simp at h2)
    show wgo fl (Pth.stp fl l (bi (dl s)) false) (mk ((t :: u).map fun s => bi (dl s))) = _
    rw [h1, ih, List.append_assoc]
    rfl
/-- a walk's path, put together and walked again, is the same -/
theorem wlk_again (sp fl : Bool) (t : List Int) : wlk sp fl [] (txt (wlk sp fl [] t)) = wlk sp fl [] t := by
  have hg := wlk_good sp fl t
  have hn := wlk_ne sp fl [] t
  obtain ⟨p, hp⟩ : ∃ p, wlk sp fl [] t = p := ⟨_, rfl⟩
  rw [hp] at hg hn ⊢
  unfold wlk
  rw [prt_txt sp p hn hg.1]
  exact wgo_again p [] hg.1 (fun h1 _ => hg.2 h1)
end Go.Proofs.YtjkfppgekepbeaaDoor.Pth
