/-
  fasciaref13: Parse.
-/
import Derived.Test.YtcoppicieicikaaDoorSixRG
namespace Go.Proofs.YtcoppicieicikaaDoor.Sx
open Go.RowKit

/-- numbers, and noughts up to eight -/
def pad (xs : List Nat) : List Nat := xs ++ List.replicate (8 - xs.length) 0
theorem pad_len {xs : List Nat} (h : xs.length ≤ 8) : (pad xs).length = 8 := by rw [pad, List.length_append, List.length_replicate]; omega
theorem pad_zero {xs : List Nat} (h : xs.length < 8) : pad (xs ++ [0]) = pad xs := by
  rw [pad, pad, List.length_append, List.length_singleton, show 8 - xs.length = (8 - (xs.length + 1)) + 1 by omega, List.replicate_succ, List.append_assoc]
  rfl
theorem pad_put {xs : List Nat} {n : Nat} (hn : xs.length = n) (h : n < 8) (v : Nat) : (pad xs).set n v = pad (xs ++ [v]) := by
  subst hn
  rw [pad, pad, List.set_append_right _ _ (Nat.le_refl _), Nat.sub_self, List.length_append, List.length_singleton, show 8 - xs.length = (8 - (xs.length + 1)) + 1 by omega, List.replicate_succ, List.append_assoc]
  rfl
theorem pad_full {xs : List Nat} (h : xs.length = 8) : pad xs = xs := by rw [pad, h]; simp
/-- short, as a number -/
def SHZ (sh : Option Nat) (z : Int) (n : Nat) : Prop := (sh = none ∧ z = -1) ∨ ∃ k : Nat, sh = some k ∧ z = (k : Int) ∧ 1 ≤ k ∧ k ≤ n
theorem SHZ.mono {sh : Option Nat} {z : Int} {n m : Nat} (h : SHZ sh z n) (hm : n ≤ m) : SHZ sh z m := by
  rcases h with h | ⟨k, h1, h2, h3, h4⟩
  · exact .inl h
  · exact .inr ⟨k, h1, h2, h3, by omega⟩
/-- the noughts' row moved behind: j swaps done -/
def arr (xs : List Nat) (n j : Nat) : List Nat := (List.range 8).map fun i => if 8 - j ≤ i then nth xs (i + n - 8) else if i + j < n then nth xs i else 0
theorem arr_len (xs : List Nat) (n j : Nat) : (arr xs n j).length = 8 := by simp [arr]
theorem arr_nth {xs : List Nat} {n j i : Nat} (hi : i < 8) : nth (arr xs n j) i = if 8 - j ≤ i then nth xs (i + n - 8) else if i + j < n then nth xs i else 0 := by
  rw [nth, List.getD, arr, List.getElem?_map, List.getElem?_range hi]
  rfl
theorem ext8 {x y : List Nat} (hx : x.length = 8) (hy : y.length = 8) (h : ∀ i, i < 8 → nth x i = nth y i) : x = y := by
  refine List.ext_getElem (by omega) fun i h1 h2 => ?_
  have := h i (by omega)
  rw [nth, nth, List.getD, List.getD, List.getElem?_eq_getElem h1, List.getElem?_eq_getElem h2] at this
  exact this
theorem nth_app {x y : List Nat} (i : Nat) : nth (x ++ y) i = if i < x.length then nth x i else nth y (i - x.length) := by
  rw [nth, List.getD]
  split
  · rw [List.getElem?_append_left ‹_›]; rfl
  · rw [List.getElem?_append_right (by omega)]; rfl
theorem nth_rep {m i : Nat} (h : i < m) : nth (List.replicate m 0) i = 0 := by
  rw [nth, List.getD, List.getElem?_replicate, if_pos h]
  rfl
theorem nth_set {x : List Nat} {k v i : Nat} (hk : k < x.length) : nth (x.set k v) i = if i = k then v else nth x i := by
  rw [nth, List.getD, List.getElem?_set]
  by_cases h : k = i
  · subst h
    rw [if_pos rfl, if_pos hk, if_pos rfl]
    rfl
  · rw [if_neg h, if_neg (fun e => h e.symm)]
    rfl
theorem arr_start {xs : List Nat} {n : Nat} (hn : xs.length = n) (h8 : n ≤ 8) : pad xs = arr xs n 0 := by
  refine ext8 (pad_len (by omega)) (arr_len ..) fun i hi => ?_
  rw [arr_nth hi, if_neg (by omega), pad, nth_app]
  by_cases h : i < xs.length
  · rw [if_pos h, if_pos (by omega)]
  · rw [if_neg h, if_neg (by omega), nth_rep (by omega)]
theorem arr_step {xs : List Nat} {n k j p m : Nat} (h8 : n ≤ 8) (hk : 1 ≤ k) (hp : p + j = 7) (hm : m + j + 1 = n) (hkm : k ≤ m) : ((arr xs n j).set p (nth (arr xs n j) m)).set m (nth (arr xs n j) p) = arr xs n (j + 1) := by
  refine ext8 (by simp [arr_len]) (arr_len ..) fun i hi => ?_
  rw [nth_set (by rw [List.length_set, arr_len]; omega), nth_set (by rw [arr_len]; omega), arr_nth hi, arr_nth hi, arr_nth (by omega), arr_nth (by omega)]
  rw [if_neg (show ¬ 8 - j ≤ m by omega), if_pos (show m + j < n by omega), if_neg (show ¬ 8 - j ≤ p by omega)]
  by_cases h1 : i = m
  · subst h1
    rw [if_pos rfl]
    by_cases h7 : p + j < n
    · have e : p = i := by omega
      subst e
      rw [if_pos h7, if_pos (by omega)]
      congr 1
      omega
    · rw [if_neg h7, if_neg (by omega), if_neg (by omega)]
  · rw [if_neg h1]
    by_cases h2 : i = p
    · subst h2
      rw [if_pos rfl, if_pos (by omega)]
      congr 1
      omega
    · rw [if_neg h2]
      by_cases h3 : 8 - j ≤ i
      · rw [if_pos h3, if_pos (show 8 - (j + 1) ≤ i by omega)]
      · rw [if_neg h3, if_neg (show ¬ 8 - (j + 1) ≤ i by omega)]
        by_cases h4 : i + j < n
        · rw [if_pos h4, if_pos (by omega)]
        · rw [if_neg h4, if_neg (by omega)]
theorem arr_end {xs : List Nat} {n k j : Nat} (hn : xs.length = n) (h8 : n ≤ 8) (hk : 1 ≤ k) (hkn : k ≤ n) (hj : k + j = n) : done (some k) xs = some (arr xs n j) := by
  rw [done, if_pos (by omega)]
  congr 1
  refine ext8 (by simp; omega) (arr_len ..) fun i hi => ?_
  rw [arr_nth hi, nth_app, nth_app]
  simp only [List.length_append, List.length_take, List.length_replicate]
  rw [show min k xs.length = k by omega]
  by_cases h1 : i < k
  · rw [if_pos (by omega), if_pos h1, if_neg (by omega), if_pos (by omega), nth_take h1]
  · by_cases h2 : i < k + (8 - xs.length)
    · rw [if_pos h2, if_neg h1, if_neg (by omega), if_neg (by omega), nth_rep (by omega)]
    · rw [if_neg h2, if_pos (by omega), nth_drop]
      congr 1
      omega
/-- between two pieces -/
def AT (T : Option (List Nat)) (sh : Option Nat) (xs : List Nat) (n : Nat) (z : Int) (r : List UInt8) : Prop := xs.length = n ∧ SHZ sh z n ∧ T = ans sh xs r
/-- within one: q read, worth v -/
def IN (l q : List UInt8) (a b m v : Nat) : Prop := l.drop a = q ++ l.drop b ∧ q.length = m ∧ m ≤ 4 ∧ a + m = b ∧ (∀ c ∈ q, dv c < 16) ∧ vgo 16 0 q = some v ∧ v < 16 ^ m
theorem IN.start (l : List UInt8) (a : Nat) : IN l [] a a 0 0 := ⟨rfl, rfl, by decide, rfl, (fun c h => by cases h), rfl, by decide⟩
theorem IN.step {l q : List UInt8} {a b m v : Nat} (h : IN l q a b m v) (hm : m < 4) (hw : wth l b < 16) : ∃ q', IN l q' a (b + 1) (m + 1) (16 * v + wth l b) ∧ b < l.length := by
  obtain ⟨c, t, hd, hc, hc16⟩ := wth_lt (by decide) hw
  obtain ⟨h1, h2, h3, h4, h5, h6, h7⟩ := h
  have hn := drop_next hd
  refine ⟨q ++ [c], ⟨?_, ?_, by omega, by omega, ?_, ?_, ?_⟩, hn.2⟩
  · rw [h1, hd, hn.1, List.append_assoc]; rfl
  · rw [List.length_append, h2]; rfl
  · intro d hd'
    simp only [List.mem_append, List.mem_singleton] at hd'
    rcases hd' with h | rfl
    · exact h5 d h
    · exact hc16
  · rw [vgo_snocR h6 hc16, hc, Nat.mul_comm]
  · rw [Nat.pow_succ]; omega
theorem IN.val {l q : List UInt8} {a b m v : Nat} (h : IN l q a b m v) : v < 65536 := by
  have : 16 ^ m ≤ 16 ^ 4 := Nat.pow_le_pow_right (by decide) h.2.2.1
  exact Nat.lt_of_lt_of_le h.2.2.2.2.2.2 this
theorem IN.pce {l q : List UInt8} {a b m v : Nat} (h : IN l q a b m v) (hm : m ≠ 0) : pce q = some v := by
  obtain ⟨h1, h2, h3, h4, h5, h6, h7⟩ := h
  unfold Sx.pce
  rw [if_neg (by
    rintro (e | e)
    · rw [e] at h2; exact hm h2.symm
    · omega)]
  exact h6
theorem hex_no {q : List UInt8} (h : ∀ c ∈ q, dv c < 16) : (58 : UInt8) ∉ q ∧ (46 : UInt8) ∉ q := ⟨fun e => absurd (h 58 e) (by decide), fun e => absurd (h 46 e) (by decide)⟩
/-- a dot behind it -/
theorem AT.dot {T : Option (List Nat)} {sh : Option Nat} {xs : List Nat} {n : Nat} {z : Int} {l q : List UInt8} {a b m v : Nat} (h : AT T sh xs n z (l.drop a)) (hi : IN l q a b m v) (hb : isb l b 46 = true) : T = (four (l.drop a)).bind fun y => done sh (xs ++ y) := by
  obtain ⟨t, ht⟩ := isb_true (by decide) hb
  rw [h.2.2, hi.1, ht]
  exact ans_dot (hex_no hi.2.2.2.2.1).1
theorem AT.dot0 {T : Option (List Nat)} {sh : Option Nat} {xs : List Nat} {n : Nat} {z : Int} {l q : List UInt8} {a b m v : Nat} (h : AT T sh xs n z (l.drop a)) (hi : IN l q a b m v) (hb : isb l b 46 = true) (hm : m = 0 ∨ 6 < n) : T = none := by
  rw [h.dot hi hb]
  rcases hm with rfl | hn
  · obtain ⟨t, ht⟩ := isb_true (by decide) hb
    have : q = [] := List.eq_nil_of_length_eq_zero hi.2.1
    rw [hi.1, this, List.nil_append, ht]
    rw [show UInt8.ofNat 46 = 46 from rfl, four_dot0]
    rfl
  · exact done_six (by rw [h.1]; exact hn) fun y hy => four_two hy
/-- a colon behind it -/
theorem AT.colon {T : Option (List Nat)} {sh : Option Nat} {xs : List Nat} {n : Nat} {z : Int} {l q : List UInt8} {a b m v : Nat} (h : AT T sh xs n z (l.drop a)) (hi : IN l q a b m v) (hb : isb l b 58 = true) (ha : isb l a 58 = false) : m ≠ 0 ∧ b < l.length ∧ (b + 1 = l.length → T = none) ∧ (b + 1 ≠ l.length → AT T sh (xs ++ [v]) (n + 1) z (l.drop (b + 1))) := by
  obtain ⟨t, ht⟩ := isb_true (by decide) hb
  have hd := drop_next ht
  have hm : m ≠ 0 := fun e => by
    subst e
    obtain rfl : a = b := by have := hi.2.2.2.1; omega
    rw [ha] at hb
    cases hb
  have hq : q ≠ [] := fun e => hm (by rw [← hi.2.1, e]; rfl)
  obtain ⟨h58, h46⟩ := hex_no hi.2.2.2.2.1
  refine ⟨hm, hd.2, fun e => ?_, fun e => ⟨by rw [List.length_append, h.1]; rfl, h.2.1.mono (by omega), ?_⟩⟩
  · have : t = [] := by rw [← hd.1, e]; exact List.drop_length
    rw [h.2.2, hi.1, ht, this]
    exact ans_colon_end h58 hq
  · have : t ≠ [] := fun e2 => by
      rw [e2] at hd
      have := congrArg List.length hd.1
      rw [List.length_drop] at this
      simp at this
      omega
    rw [h.2.2, hi.1, ht, hd.1]
    exact ans_piece h58 (hi.pce hm) this
/-- the text's end behind it -/
theorem AT.end_ {T : Option (List Nat)} {sh : Option Nat} {xs : List Nat} {n : Nat} {z : Int} {l q : List UInt8} {a b m v : Nat} (h : AT T sh xs n z (l.drop a)) (hi : IN l q a b m v) (hb : b = l.length) (ha : a < l.length) : AT T sh (xs ++ [v]) (n + 1) z (l.drop b) := by
  have hm : m ≠ 0 := by have := hi.2.2.2.1; omega
  obtain ⟨h58, h46⟩ := hex_no hi.2.2.2.2.1
  refine ⟨by rw [List.length_append, h.1]; rfl, h.2.1.mono (by omega), ?_⟩
  rw [h.2.2, hi.1, hb, List.drop_length, List.append_nil, ans_nil]
  exact ans_last_piece h58 h46 (hi.pce hm)
/-- another byte behind it -/
theorem AT.stray {T : Option (List Nat)} {sh : Option Nat} {xs : List Nat} {n : Nat} {z : Int} {l q : List UInt8} {a b m v : Nat} (h : AT T sh xs n z (l.drop a)) (hi : IN l q a b m v) (hb : b < l.length) (h46 : isb l b 46 = false) (h58 : isb l b 58 = false) (hw : m = 4 ∨ ¬ wth l b < 16) : T = none := by
  obtain ⟨c, t, hd⟩ : ∃ c t, l.drop b = c :: t := by
    cases e : l.drop b with
    | nil => have := congrArg List.length e; rw [List.length_drop] at this; simp at this; omega
    | cons c t => exact ⟨c, t, rfl⟩
  have e46 := isb_false (by decide) h46
  have e58 := isb_false (by decide) h58
  rw [hd] at e46 e58
  rw [h.2.2, hi.1, hd]
  refine ans_stray hi.2.2.2.2.1 ?_ (fun e => e46 (by rw [e]; rfl)) (fun e => e58 (by rw [e]; rfl))
  rcases hw with h4 | hw
  · exact .inr (by rw [hi.2.1, h4]; exact Nat.le_refl _)
  · exact .inl (wth_ge hw c (by rw [hd]; rfl))
theorem AT.full {T : Option (List Nat)} {sh : Option Nat} {xs : List Nat} {n : Nat} {z : Int} {l : List UInt8} {a : Nat} (h : AT T sh xs n z (l.drop a)) (h8 : n = 8) (ha : a < l.length) : T = none := by
  rw [h.2.2]
  refine ans_full (fun e => ?_) (by rw [h.1, h8])
  have := congrArg List.length e
  rw [List.length_drop] at this
  simp at this
  omega
theorem AT.run {T : Option (List Nat)} {sh : Option Nat} {xs : List Nat} {n : Nat} {z : Int} {l : List UInt8} {a : Nat} (h : AT T sh xs n z (l.drop a)) (hb : isb l a 58 = true) : a < l.length ∧ (0 ≤ z → T = none) ∧ (z = -1 → AT T (some (n + 1)) (xs ++ [0]) (n + 1) ((n + 1 : Nat) : Int) (l.drop (a + 1))) := by
  obtain ⟨t, ht⟩ := isb_true (by decide) hb
  have hd := drop_next ht
  refine ⟨hd.2, fun hz => ?_, fun hz => ⟨by rw [List.length_append, h.1]; rfl, .inr ⟨n + 1, rfl, rfl, by omega, Nat.le_refl _⟩, ?_⟩⟩
  · rcases h.2.1 with ⟨_, e⟩ | ⟨k, e, _⟩
    · omega
    · rw [h.2.2, ht, e]
      exact ans_colon_none
  · rcases h.2.1 with ⟨e, _⟩ | ⟨k, _, e, _⟩
    · rw [h.2.2, ht, e, hd.1]
      show ans none xs (58 :: t) = _
      rw [ans_colon_some, h.1]
    · omega
/-- with all read -/
theorem AT.done {T : Option (List Nat)} {sh : Option Nat} {xs : List Nat} {n : Nat} {z : Int} {l : List UInt8} {a : Nat} (h : AT T sh xs n z (l.drop a)) (ha : ¬ a < l.length) : xs.length = n ∧ SHZ sh z n ∧ T = Sx.done sh xs := by
  refine ⟨h.1, h.2.1, ?_⟩
  rw [h.2.2, List.drop_of_length_le (by omega), ans_nil]
/-- the three blocks -/
def PS (w wr : World) (ys : List Nat) : Prop := Hx wr w.heap.size z8 ∧ Hx wr (w.heap.size + 1) z8 ∧ Hx wr (w.heap.size + 1 + 1) ys ∧ Below w.heap.size w wr
theorem PS.put {w wr : World} {ys : List Nat} (h : PS w wr ys) (k v : Nat) : PS w (wr.setCell ⟨w.heap.size + 1 + 1, k, none⟩ (.int .u16 (v : Int))) (ys.set k v) := by
  have hb0 : Below (w.heap.size + 1 + 1) wr wr := Below.refl _ _
  have hb : Below (w.heap.size + 1 + 1) wr (wr.setCell ⟨w.heap.size + 1 + 1, k, none⟩ (.int .u16 (v : Int))) := hb0.setCell (Nat.le_refl _) _
  exact ⟨h.1.gob (by omega) hb, h.2.1.gob (by omega) hb, h.2.2.1.set k v, h.2.2.2.trans (hb.mono (by omega))⟩
theorem PS.drew {w wr : World} {ys : List Nat} (h : PS w wr ys) : PS w wr.drew ys := ⟨h.1, h.2.1, h.2.2.1, h.2.2.2.drew⟩
theorem four_lt {p y : _} (h : four p = some y) : ∀ n ∈ y, n < 65536 := by
  obtain ⟨a, b, c, d, h1, h2, rfl, _⟩ := four_some h
  intro n hn
  simp at hn
  omega
set_option maxRecDepth 100000 in
set_option maxHeartbeats 60000000 in
theorem refParse_any (s : ByteArray) (hs : s.size ≤ 100) (w : World) : Calls Tryd.prog 10 #[.string s] w (ParR (prs (dl s)) w) := by
  have hll : (dl s).length = s.size := by simp [dl]
  have HW : Hid (∀ (k : Nat) (_ : k ≤ 200) W, Calls Tryd.prog 29 #[.string s, .int .i64 (k : Int)] W (fun e w' => e = .returned (.int .i64 (wth (dl s) k : Int)) ∧ W = w')) := Lib.hid (fun k hk W => (worth_any s k W hk).mono fun e w' h => ⟨h.1, h.2.symm⟩)
  have HI : Hid (∀ (k c : Nat) (_ : k ≤ 200) W, Calls Tryd.prog 28 #[.string s, .int .i64 (k : Int), .int .u8 (c : Int)] W (fun e w' => e = .returned (.bool (isb (dl s) k c)) ∧ W = w')) := Lib.hid (fun k c hk W => (is_any s k c W hk).mono fun e w' h => ⟨h.1, h.2.symm⟩)
  have HF := Lib.hid (fun (k : Nat) (hk : k ≤ s.size) W => refFour_any s hs k hk W)
  rw [prs_ansA]
  obtain ⟨l, hl⟩ : ∃ l, dl s = l := ⟨_, rfl⟩
  rw [hl] at hll HW HI HF ⊢
  obtain ⟨T, hT⟩ : ∃ T, ansA [] l = T := ⟨_, rfl⟩
  have HT := Lib.hid hT
  have HLL := Lib.hid hll
  obtain ⟨w1, hw1⟩ : ∃ w1, (((w.alloc (.cells #[.int .u16 0, .int .u16 0, .int .u16 0, .int .u16 0, .int .u16 0, .int .u16 0, .int .u16 0, .int .u16 0] 23)).alloc (.cells #[.int .u16 0, .int .u16 0, .int .u16 0, .int .u16 0, .int .u16 0, .int .u16 0, .int .u16 0, .int .u16 0] 23)).alloc (.cells #[.int .u16 0, .int .u16 0, .int .u16 0, .int .u16 0, .int .u16 0, .int .u16 0, .int .u16 0, .int .u16 0] 23)) = w1 := ⟨_, rfl⟩
  have h0 : Hx w1 w.heap.size z8 := by
    rw [← hw1]
    exact (((Hx.new w z8).go (upA _ (.cells (cu z8).toArray 23))).go (upA _ (.cells (cu z8).toArray 23)))
  have h1 : Hx w1 (w.heap.size + 1) z8 := by
    have h := ((Hx.new (w.alloc (.cells (cu z8).toArray 23)) z8).go (upA _ (.cells (cu z8).toArray 23)))
    rw [World.size_alloc] at h
    rw [← hw1]
    exact h
  have h2 : Hx w1 (w.heap.size + 1 + 1) z8 := by
    have h := Hx.new ((w.alloc (.cells (cu z8).toArray 23)).alloc (.cells (cu z8).toArray 23)) z8
    rw [World.size_alloc, World.size_alloc] at h
    rw [← hw1]
    exact h
  have hB0 : Below w.heap.size w w1 := by
    rw [← hw1]
    exact ((upA w _).alloc (by simp) _).alloc (by simp; omega) _
  have HX0 := Lib.hid h0
  have HX1 := Lib.hid h1
  have HX2 := Lib.hid h2
  have HB0 := Lib.hid hB0
  rw [hT]
  clear hT hl hll h0 h1 h2 hB0
  go_enter Tryd.func10, Tryd.ntmps10
  go_upto_region 2 with fail
  have HI0 : Hid (∀ W, Calls Tryd.prog 28 #[.string s, .int .i64 0, .int .u8 58] W (fun e w' => e = .returned (.bool (isb l 0 58)) ∧ W = w')) := Lib.hid (fun W => HI.out 0 58 (by decide) W)
  have HI1 : Hid (∀ W, Calls Tryd.prog 28 #[.string s, .int .i64 1, .int .u8 58] W (fun e w' => e = .returned (.bool (isb l 1 58)) ∧ W = w')) := Lib.hid (fun W => HI.out 1 58 (by decide) W)
  have HC58 : Hid (∀ (k : Nat) (_ : k ≤ 200) W, Calls Tryd.prog 28 #[.string s, .int .i64 (k : Int), .int .u8 58] W (fun e w' => e = .returned (.bool (isb l k 58)) ∧ W = w')) := Lib.hid (fun k hk W => HI.out k 58 hk W)
  have HC46 : Hid (∀ (k : Nat) (_ : k ≤ 200) W, Calls Tryd.prog 28 #[.string s, .int .i64 (k : Int), .int .u8 46] W (fun e w' => e = .returned (.bool (isb l k 46)) ∧ W = w')) := Lib.hid (fun k hk W => HI.out k 46 hk W)
  have HP0 : Hid (PS w w1 (pad [])) := Lib.hid ⟨HX0.out, HX1.out, HX2.out, HB0.out⟩
  clear HI hw1
  obtain ⟨q0, hq0⟩ : ∃ q, isb l 0 58 = q := ⟨_, rfl⟩
  obtain ⟨q1, hq1⟩ : ∃ q, isb l 1 58 = q := ⟨_, rfl⟩
  rw [hq0] at HI0
  rw [hq1] at HI1
  have HQ0 := Lib.hid hq0
  have HQ1 := Lib.hid hq1
  clear hq0 hq1
  go_upto_if 17 with (first | (go_at_call 28; refine (HI0.out _).mono ?_; rintro e w2 ⟨rfl, rfl⟩) | fail)
  go_cut [6, 7, 8] from 16 (fun s6 s7 s8 wr => ∃ (a n : Nat) (z : Int) (sh : Option Nat) (xs : List Nat), s6 = .int .i64 (n : Int) ∧ s7 = .int .i64 z ∧ s8 = .int .i64 (a : Int) ∧ n ≤ 8 ∧ a ≤ s.size ∧ Hid (AT T sh xs n z (l.drop a)) ∧ Hid (PS w wr (pad xs)))
  case first =>
    cases q0 with
    | true =>
      obtain ⟨t, ht⟩ := isb_true (by decide) HQ0.out
      have hd := drop_next ht
      rw [List.drop_zero] at ht
      rw [Nat.zero_add] at hd
      cases q1 with
      | true =>
        obtain ⟨u, hu⟩ := isb_true (by decide) HQ1.out
        have hd2 := drop_next hu
        have HA : Hid (AT T (some 1) [0] 1 1 (l.drop 2)) := Lib.hid ⟨rfl, .inr ⟨1, rfl, rfl, by decide, by decide⟩, by
          rw [← HT.out]
          have e1 : l = 58 :: 58 :: u := by rw [ht, ← hd.1, hu]; rfl
          have e2 : l.drop 2 = u := hd2.1
          rw [e2, e1]
          exact ansA_two⟩
        have h2s : 2 ≤ s.size := by have := hd2.2; rw [HLL.out] at this; omega
        clear ht hd hu hd2
        go_wp2_with (first | (go_at_call 28; refine (HI1.out _).mono ?_; rintro e w2 ⟨rfl, rfl⟩) | fail)
        go_meet
        exact ⟨2, 1, 1, some 1, [0], rfl, rfl, rfl, by decide, h2s, HA, HP0⟩
      | false =>
        have HN : Hid (T = none) := Lib.hid (by
          rw [← HT.out, ht]
          exact ansA_colon (by rw [← hd.1]; exact isb_false (by decide) HQ1.out))
        have hx0 := HX0.out
        have hx1 := HX1.out
        have HB := HB0
        clear ht hd
        go_upto_region 5 with (first | (go_at_call 28; refine (HI1.out _).mono ?_; rintro e w2 ⟨rfl, rfl⟩) | fail)
        go_wp2_with (first | (refine load8 _ rfl _ rfl z8 hx1 rfl rfl ?_) | (refine store8 rfl _ _ rfl _ z8 z8 rfl rfl hx0 rfl rfl ?_; intro wX hld hbX) | fail)
        refine bodyPost_ret (v := .tuple #[av z8, .int .i64 31]) ?_ rfl ?_
        case refine_1 => exact results_two (u := 3) Tryd.results10 rfl hld rfl
        exact parR_none HN.out (HB.out.trans (hbX.mono (by first | exact Nat.le_refl _ | omega)))
    | false =>
      have HA : Hid (AT T none [] 0 (-1) (l.drop 0)) := Lib.hid ⟨rfl, .inl ⟨rfl, rfl⟩, by
        rw [← HT.out, List.drop_zero]
        show _ = if l.head? = some 58 then _ else ansA [] l
        have := isb_false (l := l) (k := 0) (by decide) HQ0.out
        rw [List.drop_zero] at this
        rw [if_neg (show ¬ l.head? = some 58 from this)]⟩
      go_wp2_with fail
      go_meet
      exact ⟨0, 0, -1, none, [], rfl, rfl, rfl, by decide, Nat.zero_le _, HA, HP0⟩
  case rest =>
    clear HX0 HX1 HX2 HB0 HP0 HI0 HI1 HQ0 HQ1 HT
    obtain ⟨a0, n0, z0, sh0, xs0, rfl, rfl, rfl, hn0, ha0, HA0, HP0⟩ := hcut
    generalize wc = w3 at HP0 ⊢
    go_upto_block 0 with fail
    go_cut [6, 7] from 22 (fun s6 s7 wr => ∃ (n : Nat) (z : Int) (sh : Option Nat) (xs : List Nat), s6 = .int .i64 (n : Int) ∧ s7 = .int .i64 z ∧ n ≤ 8 ∧ Hid (xs.length = n ∧ SHZ sh z n ∧ T = done sh xs) ∧ Hid (PS w wr (pad xs)))
    case first =>
      go_wp2_with fail
      go_loopg [6, 7, 8] (s.size - a0) (fun m s6 s7 s8 wr => ∃ (a n : Nat) (z : Int) (sh : Option Nat) (xs : List Nat), s6 = .int .i64 (n : Int) ∧ s7 = .int .i64 z ∧ s8 = .int .i64 (a : Int) ∧ s.size - a = m ∧ n ≤ 8 ∧ a ≤ s.size ∧ Hid (AT T sh xs n z (l.drop a)) ∧ Hid (PS w wr (pad xs)))
      case atStart => exact ⟨a0, n0, z0, sh0, xs0, rfl, rfl, rfl, rfl, hn0, ha0, HA0, HP0⟩
      case round =>
        clear HA0 HP0 hn0 ha0
        obtain ⟨a, n, z, sh, xs, rfl, rfl, rfl, rfl, hn, ha, HA, HP⟩ := hrel
        by_cases has : a < s.size
        · have hasz : (a : Int) < (s.size : Int) := by omega
          have hal : a < l.length := by rw [HLL.out]; exact has
          have HAL := Lib.hid hal
          by_cases h8 : n = 8
          · have h8z : ((n : Int) == 8) = true := by rw [beq_iff_eq]; omega
            have HN : Hid (T = none) := Lib.hid (HA.out.full h8 hal)
            have hx0 := HP.out.1
            have hx1 := HP.out.2.1
            have HB := Lib.hid HP.out.2.2.2
            clear h8 hal
            go_wp2_with (first | (refine load8 _ rfl _ rfl z8 hx1 rfl rfl ?_) | (refine store8 rfl _ _ rfl _ z8 z8 rfl rfl hx0 rfl rfl ?_; intro wX hld hbX) | fail)
            refine bodyPost_ret (v := .tuple #[av z8, .int .i64 31]) ?_ rfl ?_
            case refine_1 => exact results_two (u := 3) Tryd.results10 rfl hld rfl
            exact parR_none HN.out (HB.out.trans (hbX.mono (by first | exact Nat.le_refl _ | omega)))
          · have h8z : ((n : Int) == 8) = false := by rw [beq_eq_false_iff_ne]; omega
            have hn8 : n < 8 := by omega
            have HIa := Lib.hid (HC58.out a (by omega))
            obtain ⟨q, hq⟩ : ∃ q, isb l a 58 = q := ⟨_, rfl⟩
            rw [hq] at HIa
            have HQ := Lib.hid hq
            clear h8 hal hq
            cases q with
            | true =>
              obtain ⟨r1, r2, r3⟩ := HA.out.run HQ.out
              by_cases hz : 0 ≤ z
              · have hzz : (0 : Int) ≤ z := hz
                have HN : Hid (T = none) := Lib.hid (r2 hz)
                have hx0 := HP.out.1
                have hx1 := HP.out.2.1
                have HB := Lib.hid HP.out.2.2.2
                clear r1 r2 r3 hz
                go_upto_region 14 with (first | (go_at_call 28; refine (HIa.out _).mono ?_; rintro e w2 ⟨rfl, rfl⟩) | fail)
                go_wp2_with (first | (refine load8 _ rfl _ rfl z8 hx1 rfl rfl ?_) | (refine store8 rfl _ _ rfl _ z8 z8 rfl rfl hx0 rfl rfl ?_; intro wX hld hbX) | fail)
                refine bodyPost_ret (v := .tuple #[av z8, .int .i64 31]) ?_ rfl ?_
                case refine_1 => exact results_two (u := 3) Tryd.results10 rfl hld rfl
                exact parR_none HN.out (HB.out.trans (hbX.mono (by first | exact Nat.le_refl _ | omega)))
              · have hzz : ¬ (0 : Int) ≤ z := hz
                have HA2 := Lib.hid (r3 (by rcases HA.out.2.1 with ⟨_, e⟩ | ⟨k, _, e, _⟩ <;> omega))
                have HP2 : Hid (PS w wr (pad (xs ++ [0]))) := Lib.hid (by rw [pad_zero (by rw [HA.out.1]; exact hn8)]; exact HP.out)
                clear r1 r2 r3 hz
                go_wp2_with (first | (go_at_call 28; refine (HIa.out _).mono ?_; rintro e w2 ⟨rfl, rfl⟩) | fail)
                go_roundg (s.size - (a + 1))
                case measure => omega
                case rel => exact ⟨a + 1, n + 1, _, some (n + 1), xs ++ [0], by go_num, by go_num, by go_num, rfl, by omega, by omega, HA2, HP2⟩
            | false =>
              go_upto_block 2 with (first | (go_at_call 28; refine (HIa.out _).mono ?_; rintro e w2 ⟨rfl, rfl⟩) | fail)
              go_cut [8, 9, 10] from 22 to 113 (fun s8 s9 s10 wx => ∃ (b v m : Nat) (p : List UInt8), s8 = .int .i64 (b : Int) ∧ s9 = .int .i64 (v : Int) ∧ s10 = .int .i64 (m : Int) ∧ m ≤ 4 ∧ v < 65536 ∧ a + m = b ∧ b ≤ s.size ∧ Hid (IN l p a b m v) ∧ Hid (m = 4 ∨ ¬ wth l b < 16) ∧ wx = wr)
              case first =>
                go_wp2_with fail
                go_loopg [8, 9, 10] 4 (fun k s8 s9 s10 wx => ∃ (b v m : Nat) (p : List UInt8), s8 = .int .i64 (b : Int) ∧ s9 = .int .i64 (v : Int) ∧ s10 = .int .i64 (m : Int) ∧ 4 - m = k ∧ m ≤ 4 ∧ v < 65536 ∧ a + m = b ∧ b ≤ s.size ∧ Hid (IN l p a b m v) ∧ wx = wr)
                case atStart => exact ⟨a, 0, 0, [], rfl, rfl, rfl, rfl, by decide, by decide, rfl, ha, Lib.hid (IN.start l a), rfl⟩
                case round =>
                  obtain ⟨b, v, m, p, rfl, rfl, rfl, rfl, hm, hv, hab, hb, HIN, hwr⟩ := hrel
                  have HWb := Lib.hid (HW.out b (by omega))
                  obtain ⟨d, hd⟩ : ∃ d, wth l b = d := ⟨_, rfl⟩
                  rw [hd] at HWb
                  have HD := Lib.hid hd
                  have HWR := Lib.hid hwr
                  clear hd hwr
                  by_cases hgo : m < 4 ∧ d < 16
                  · obtain ⟨hm4, hd16⟩ := hgo
                    have hm4z : (m : Int) < 4 := by omega
                    have hmd : decide ((m : Int) < 4) = true := decide_eq_true hm4z
                    have hdz : (d : Int) < 16 := by omega
                    obtain ⟨p2, hi2, hbl⟩ := HIN.out.step hm4 (by rw [HD.out]; exact hd16)
                    rw [HD.out] at hi2
                    have HI2 := Lib.hid hi2
                    have hv2 := hi2.val
                    have hb2 : b + 1 ≤ s.size := by rw [HLL.out] at hbl; omega
                    clear hi2 hbl hm4 hd16
                    go_wp2_with (first | (go_at_call 29; refine (HWb.out _).mono ?_; rintro e w2 ⟨rfl, rfl⟩) | fail)
                    go_roundg (4 - (m + 1))
                    case measure => omega
                    case rel => exact ⟨b + 1, 16 * v + d, m + 1, p2, by go_num, by go_num, by go_num, rfl, by omega, hv2, by omega, hb2, HI2, HWR.out⟩
                  · have HST : Hid (m = 4 ∨ ¬ wth l b < 16) := Lib.hid (by rw [HD.out]; omega)
                    have hcs : (m < 4 ∧ 16 ≤ d) ∨ m = 4 := by omega
                    clear hgo
                    rcases hcs with ⟨hm4, hd16⟩ | hm4
                    · have hm4z : (m : Int) < 4 := by omega
                      have hmd : decide ((m : Int) < 4) = true := decide_eq_true hm4z
                      have hdz : ¬ (d : Int) < 16 := by omega
                      clear hm4 hd16
                      go_wp2_with (first | (go_at_call 29; refine (HWb.out _).mono ?_; rintro e w2 ⟨rfl, rfl⟩) | fail)
                      go_meet
                      exact ⟨b, v, m, p, rfl, rfl, rfl, hm, hv, hab, hb, HIN, HST, HWR.out⟩
                    · have hm4z : ¬ (m : Int) < 4 := by omega
                      have hmd : decide ((m : Int) < 4) = false := decide_eq_false hm4z
                      clear hm4
                      go_wp2_with fail
                      go_meet
                      exact ⟨b, v, m, p, rfl, rfl, rfl, hm, hv, hab, hb, HIN, HST, HWR.out⟩
              case rest =>
                obtain ⟨b, v, m, p, rfl, rfl, rfl, hm, hv, hab, hb, HIN, HST, hwr⟩ := hcut
                have hwr2 := hwr.symm
                clear hwr
                subst hwr2
                have HW46 := Lib.hid (HC46.out b (by omega))
                have HW58 := Lib.hid (HC58.out b (by omega))
                obtain ⟨g4, hg4⟩ : ∃ q, isb l b 46 = q := ⟨_, rfl⟩
                obtain ⟨g5, hg5⟩ : ∃ q, isb l b 58 = q := ⟨_, rfl⟩
                rw [hg4] at HW46
                rw [hg5] at HW58
                have HG4 := Lib.hid hg4
                have HG5 := Lib.hid hg5
                clear hg4 hg5
                cases g4 with
                | true =>
                  have HBM : Hid (m = 0 ∨ 6 < n → T = none) := Lib.hid (HA.out.dot0 HIN.out HG4.out)
                  have HFD := Lib.hid (HA.out.dot HIN.out HG4.out)
                  by_cases hbad : m = 0 ∨ 6 < n
                  · have HN : Hid (T = none) := Lib.hid (HBM.out hbad)
                    have hx0 := HP.out.1
                    have hx1 := HP.out.2.1
                    have HB := Lib.hid HP.out.2.2.2
                    have hcs2 : (m = 0 ∧ 0 = 0) ∨ (0 < m ∧ 6 < n) := by omega
                    clear hbad HFD HBM
                    rcases hcs2 with ⟨e1, e2⟩ | ⟨e1, e2⟩
                    · have hm0 : ((m : Int) == 0) = true := by rw [beq_iff_eq]; omega
                      clear e1 e2
                      go_upto_region 25 with (first | (go_at_call 28; refine (HW46.out _).mono ?_; rintro e w2 ⟨rfl, rfl⟩) | fail)
                      go_wp2_with (first | (refine load8 _ rfl _ rfl z8 hx1 rfl rfl ?_) | (refine store8 rfl _ _ rfl _ z8 z8 rfl rfl hx0 rfl rfl ?_; intro wX hld hbX) | fail)
                      refine bodyPost_ret (v := .tuple #[av z8, .int .i64 31]) ?_ rfl ?_
                      case refine_1 => exact results_two (u := 3) Tryd.results10 rfl hld rfl
                      exact parR_none HN.out (HB.out.trans (hbX.mono (by first | exact Nat.le_refl _ | omega)))
                    · have hm0 : ((m : Int) == 0) = false := by rw [beq_eq_false_iff_ne]; omega
                      have hn6 : (6 : Int) < (n : Int) := by omega
                      have hn6d : decide ((6 : Int) < (n : Int)) = true := decide_eq_true hn6
                      clear e1 e2
                      go_upto_region 25 with (first | (go_at_call 28; refine (HW46.out _).mono ?_; rintro e w2 ⟨rfl, rfl⟩) | fail)
                      go_wp2_with (first | (refine load8 _ rfl _ rfl z8 hx1 rfl rfl ?_) | (refine store8 rfl _ _ rfl _ z8 z8 rfl rfl hx0 rfl rfl ?_; intro wX hld hbX) | fail)
                      refine bodyPost_ret (v := .tuple #[av z8, .int .i64 31]) ?_ rfl ?_
                      case refine_1 => exact results_two (u := 3) Tryd.results10 rfl hld rfl
                      exact parR_none HN.out (HB.out.trans (hbX.mono (by first | exact Nat.le_refl _ | omega)))
                  · have hm0 : ((m : Int) == 0) = false := by rw [beq_eq_false_iff_ne]; omega
                    have hn6 : ¬ (6 : Int) < (n : Int) := by omega
                    have hn6d : decide ((6 : Int) < (n : Int)) = false := decide_eq_false hn6
                    have hn6n : n ≤ 6 := by omega
                    have hbm : (b : Int) - (m : Int) = (a : Int) := by omega
                    have HFA := Lib.hid (HF.out a ha)
                    have HFO := Lib.hid (fun y (hy : four (l.drop a) = some y) => four_lt hy)
                    obtain ⟨o, ho⟩ : ∃ o, four (l.drop a) = o := ⟨_, rfl⟩
                    rw [ho] at HFD HFA HFO
                    clear hbad ho
                    go_upto_region 27 with (first | (go_at_call 28; refine (HW46.out _).mono ?_; rintro e w2 ⟨rfl, rfl⟩) | (go_at_call 30; refine (HFA.out _).mono ?_; rintro e w2 ⟨x1, x2, fq, rfl, hfq, hw⟩; have hw2 := hw.symm; clear hw; subst hw2) | fail)
                    cases o with
                    | none =>
                      obtain rfl := hfq
                      have HN : Hid (T = none) := Lib.hid HFD.out
                      have hx0 := HP.out.1
                      have hx1 := HP.out.2.1
                      have HB := Lib.hid HP.out.2.2.2
                      go_upto_region 28 with fail
                      go_wp2_with (first | (refine load8 _ rfl _ rfl z8 hx1 rfl rfl ?_) | (refine store8 rfl _ _ rfl _ z8 z8 rfl rfl hx0 rfl rfl ?_; intro wX hld hbX) | fail)
                      refine bodyPost_ret (v := .tuple #[av z8, .int .i64 31]) ?_ rfl ?_
                      case refine_1 => exact results_two (u := 3) Tryd.results10 rfl hld rfl
                      exact parR_none HN.out (HB.out.trans (hbX.mono (by first | exact Nat.le_refl _ | omega)))
                    | some yy =>
                      obtain ⟨rfl, rfl⟩ := hfq
                      have hx1b := HFO.out _ rfl x1 (by simp)
                      have hx2b := HFO.out _ rfl x2 (by simp)
                      have hwx1 : IntKind.u16.wrap (x1 : Int) = (x1 : Int) := by simp [IntKind.wrap, IntKind.signed, IntKind.bits]; omega
                      have hwx2 : IntKind.u16.wrap (x2 : Int) = (x2 : Int) := by simp [IntKind.wrap, IntKind.signed, IntKind.bits]; omega
                      have HL := Lib.hid HA.out.1
                      have HP1 : Hid (PS w (wr.setCell ⟨w.heap.size + 1 + 1, n, none⟩ (.int .u16 (x1 : Int))) (pad (xs ++ [x1]))) := Lib.hid (by rw [← pad_put HL.out hn8]; exact HP.out.put n x1)
                      have HP2 : Hid (PS w ((wr.setCell ⟨w.heap.size + 1 + 1, n, none⟩ (.int .u16 (x1 : Int))).setCell ⟨w.heap.size + 1 + 1, n + 1, none⟩ (.int .u16 (x2 : Int))) (pad (xs ++ [x1] ++ [x2]))) := Lib.hid (by
                        rw [← pad_put (n := n + 1) (by rw [List.length_append, HL.out]; rfl) (by omega)]
                        exact HP1.out.put (n + 1) x2)
                      have HDN : Hid ((xs ++ [x1] ++ [x2]).length = n + 2 ∧ SHZ sh z (n + 2) ∧ T = done sh (xs ++ [x1] ++ [x2])) := Lib.hid ⟨by simp [HL.out], HA.out.2.1.mono (by omega), by
                        have := HFD.out
                        rw [List.append_assoc]
                        exact this⟩
                      have c1 := HP.out.2.2.1.cell (k := n) (by rw [pad_len (by rw [HL.out]; omega)]; omega)
                      have f1 := HP.out.2.2.1.frozen n
                      have c2 := HP1.out.2.2.1.cell (k := n + 1) (by rw [pad_len (by rw [List.length_append, HL.out]; simp; omega)]; omega)
                      have f2 := HP1.out.2.2.1.frozen (n + 1)
                      have hni : (0 : Int) ≤ (n : Int) ∧ (n : Int) < 8 := by omega
                      have hni1 : (0 : Int) ≤ (n : Int) + 1 ∧ (n : Int) + 1 < 8 := by omega
                      have hnt : ((n : Int)).toNat = n := by omega
                      have hnt1 : ((n : Int) + 1).toNat = n + 1 := by omega
                      obtain ⟨y1, hy1⟩ : ∃ y, nth (pad xs) n = y := ⟨_, rfl⟩
                      obtain ⟨y2, hy2⟩ : ∃ y, nth (pad (xs ++ [x1])) (n + 1) = y := ⟨_, rfl⟩
                      rw [hy1] at c1
                      rw [hy2] at c2
                      clear hy1 hy2 HFD HFA HFO hx1b hx2b
                      go_wp2_with fail
                      go_meet
                      exact ⟨n + 2, z, sh, xs ++ [x1] ++ [x2], by go_num, rfl, by omega, HDN, HP2⟩
                | false =>
                  have HL := Lib.hid HA.out.1
                  have HP1 : Hid (PS w (wr.setCell ⟨w.heap.size + 1 + 1, n, none⟩ (.int .u16 (v : Int))) (pad (xs ++ [v]))) := Lib.hid (by rw [← pad_put HL.out hn8]; exact HP.out.put n v)
                  have hwv : IntKind.u16.wrap (v : Int) = (v : Int) := by simp [IntKind.wrap, IntKind.signed, IntKind.bits]; omega
                  have c1 := HP.out.2.2.1.cell (k := n) (by rw [pad_len (by rw [HL.out]; omega)]; omega)
                  have f1 := HP.out.2.2.1.frozen n
                  have hni : (0 : Int) ≤ (n : Int) ∧ (n : Int) < 8 := by omega
                  have hnt : ((n : Int)).toNat = n := by omega
                  obtain ⟨y1, hy1⟩ : ∃ y, nth (pad xs) n = y := ⟨_, rfl⟩
                  rw [hy1] at c1
                  clear hy1
                  cases g5 with
                  | true =>
                    obtain ⟨k1, k2, k3, k4⟩ := HA.out.colon HIN.out HG5.out HQ.out
                    by_cases he : b + 1 = s.size
                    · have hez : ((b : Int) + 1 == (s.size : Int)) = true := by rw [beq_iff_eq]; omega
                      have HN : Hid (T = none) := Lib.hid (k3 (by rw [HLL.out]; exact he))
                      have hx0 := HP.out.1
                      have hx1 := HP.out.2.1
                      have HB := Lib.hid HP.out.2.2.2
                      clear k1 k2 k3 k4 he c1 f1
                      go_upto_region 36 with (first | (go_at_call 28; (first | (with_reducible refine (HW46.out _).mono ?_) | (with_reducible refine (HW58.out _).mono ?_)); rintro e w2 ⟨rfl, rfl⟩) | fail)
                      go_wp2_with (first | (refine load8 _ rfl _ rfl z8 hx1 rfl rfl ?_) | (refine store8 rfl _ _ rfl _ z8 z8 rfl rfl hx0 rfl rfl ?_; intro wX hld hbX) | fail)
                      refine bodyPost_ret (v := .tuple #[av z8, .int .i64 31]) ?_ rfl ?_
                      case refine_1 => exact results_two (u := 3) Tryd.results10 rfl hld rfl
                      exact parR_none HN.out (HB.out.trans (hbX.mono (by first | exact Nat.le_refl _ | omega)))
                    · have hez : ((b : Int) + 1 == (s.size : Int)) = false := by rw [beq_eq_false_iff_ne]; omega
                      have HA2 := Lib.hid (k4 (by rw [HLL.out]; exact he))
                      have hbs : b + 1 ≤ s.size := by rw [HLL.out] at k2; omega
                      clear k1 k2 k3 k4 he
                      go_wp2_with (first | (go_at_call 28; (first | (with_reducible refine (HW46.out _).mono ?_) | (with_reducible refine (HW58.out _).mono ?_)); rintro e w2 ⟨rfl, rfl⟩) | fail)
                      go_roundg (s.size - (b + 1))
                      case measure => omega
                      case rel => exact ⟨b + 1, n + 1, z, sh, xs ++ [v], by go_num, rfl, by go_num, rfl, by omega, hbs, HA2, HP1⟩
                  | false =>
                    by_cases hbs : b < s.size
                    · have hbsz : (b : Int) < (s.size : Int) := by omega
                      have HN : Hid (T = none) := Lib.hid (HA.out.stray HIN.out (by rw [HLL.out]; exact hbs) HG4.out HG5.out HST.out)
                      have hx0 := HP.out.1
                      have hx1 := HP.out.2.1
                      have HB := Lib.hid HP.out.2.2.2
                      clear hbs c1 f1
                      go_upto_region 38 with (first | (go_at_call 28; (first | (with_reducible refine (HW46.out _).mono ?_) | (with_reducible refine (HW58.out _).mono ?_)); rintro e w2 ⟨rfl, rfl⟩) | fail)
                      go_wp2_with (first | (refine load8 _ rfl _ rfl z8 hx1 rfl rfl ?_) | (refine store8 rfl _ _ rfl _ z8 z8 rfl rfl hx0 rfl rfl ?_; intro wX hld hbX) | fail)
                      refine bodyPost_ret (v := .tuple #[av z8, .int .i64 31]) ?_ rfl ?_
                      case refine_1 => exact results_two (u := 3) Tryd.results10 rfl hld rfl
                      exact parR_none HN.out (HB.out.trans (hbX.mono (by first | exact Nat.le_refl _ | omega)))
                    · have hbsz : ¬ (b : Int) < (s.size : Int) := by omega
                      have HA2 := Lib.hid (HA.out.end_ HIN.out (by rw [HLL.out]; omega) HAL.out)
                      clear hbs
                      go_wp2_with (first | (go_at_call 28; (first | (with_reducible refine (HW46.out _).mono ?_) | (with_reducible refine (HW58.out _).mono ?_)); rintro e w2 ⟨rfl, rfl⟩) | fail)
                      go_roundg (s.size - b)
                      case measure => omega
                      case rel => exact ⟨b, n + 1, z, sh, xs ++ [v], by go_num, rfl, rfl, rfl, by omega, hb, HA2, HP1⟩
        · have hasz : ¬ (a : Int) < (s.size : Int) := by omega
          have HD := Lib.hid (HA.out.done (by rw [HLL.out]; exact has))
          clear has
          go_wp2_with fail
          go_meet
          exact ⟨n, z, sh, xs, rfl, rfl, hn, HD, HP⟩
    case rest =>
      clear HA0 HP0 hn0 ha0
      obtain ⟨n, z, sh, xs, rfl, rfl, hn, HD, HP⟩ := hcut
      generalize wc = w4 at HP ⊢
      rcases HD.out.2.1 with ⟨rfl, rfl⟩ | ⟨k, rfl, rfl, hk1, hkn⟩
      · by_cases h8 : n = 8
        · subst h8
          have HTS : Hid (T = some xs) := Lib.hid (by rw [HD.out.2.2, done, if_pos HD.out.1])
          have h8n : (((8 : Nat) : Int) != 8) = false := by decide
          have hL8 := HD.out.1
          have hx0 := HP.out.1
          have hx2 := HP.out.2.2.1
          rw [pad_full hL8] at hx2
          have HB := Lib.hid HP.out.2.2.2
          go_wp2_with (first | (refine load8 _ rfl _ rfl xs hx2 hL8 rfl ?_) | (refine store8 rfl _ _ rfl _ z8 xs rfl rfl hx0 rfl hL8 ?_; intro wX hld hbX) | fail)
          refine bodyPost_ret (v := .tuple #[av xs, .int .i64 0]) ?_ rfl ?_
          case refine_1 => exact results_two (u := 3) Tryd.results10 rfl hld rfl
          exact parR_some HTS.out (HB.out.trans hbX)
        · have h8z : ((n : Int) != 8) = true := by rw [bne_iff_ne]; omega
          have HN : Hid (T = none) := Lib.hid (by rw [HD.out.2.2, done, if_neg (by rw [HD.out.1]; exact h8)])
          have hx0 := HP.out.1
          have hx1 := HP.out.2.1
          have HB := Lib.hid HP.out.2.2.2
          clear h8
          go_wp2_with (first | (refine load8 _ rfl _ rfl z8 hx1 rfl rfl ?_) | (refine store8 rfl _ _ rfl _ z8 z8 rfl rfl hx0 rfl rfl ?_; intro wX hld hbX) | fail)
          refine bodyPost_ret (v := .tuple #[av z8, .int .i64 31]) ?_ rfl ?_
          case refine_1 => exact results_two (u := 3) Tryd.results10 rfl hld rfl
          exact parR_none HN.out (HB.out.trans (hbX.mono (by first | exact Nat.le_refl _ | omega)))
      · have hkz : (0 : Int) ≤ (k : Int) := by omega
        have HL := Lib.hid HD.out.1
        have HTD := Lib.hid HD.out.2.2
        obtain ⟨c, hc⟩ : ∃ c, k + c = n := ⟨n - k, by omega⟩
        have hnk : (n : Int) - (k : Int) = (c : Int) := by omega
        have HP0 : Hid (PS w w4 (arr xs n 0)) := Lib.hid (by rw [← arr_start HL.out hn]; exact HP.out)
        clear HP HD
        go_upto_region 44 with fail
        go_loopg [6, 14] c (fun m s6 s14 wr => ∃ (j p q : Nat), s6 = .int .i64 (p : Int) ∧ s14 = .int .i64 (q : Int) ∧ q = m ∧ p + j = 7 ∧ j + q = c ∧ Hid (PS w wr (arr xs n j)))
        case atStart => exact ⟨0, 7, c, rfl, rfl, rfl, rfl, by omega, HP0⟩
        case round =>
          clear HP0
          obtain ⟨j, p, q, rfl, rfl, rfl, hp, hq, HP⟩ := hrel
          by_cases hq0 : q = 0
          · subst hq0
            have HTS : Hid (T = some (arr xs n j)) := Lib.hid (by rw [HTD.out]; exact arr_end HL.out hn hk1 hkn (by omega))
            have hL8 := arr_len xs n j
            have hx0 := HP.out.1
            have hx2 := HP.out.2.2.1
            have HB := Lib.hid HP.out.2.2.2
            go_wp2_with (first | (refine load8 _ rfl _ rfl (arr xs n j) hx2 hL8 rfl ?_) | (refine store8 rfl _ _ rfl _ z8 (arr xs n j) rfl rfl hx0 rfl hL8 ?_; intro wX hld hbX) | fail)
            all_goals exact bodyPost_ret (v := .tuple #[av (arr xs n j), .int .i64 0]) (results_two (u := 3) Tryd.results10 rfl hld rfl) rfl (parR_some HTS.out (HB.out.trans hbX))
          · have hpz : ((p : Int) != 0) = true := by rw [bne_iff_ne]; omega
            have hqz : (0 : Int) < (q : Int) := by omega
            have hqd : decide ((0 : Int) < (q : Int)) = true := decide_eq_true hqz
            obtain ⟨m, hm⟩ : ∃ m, m + 1 = k + q := ⟨k + q - 1, by omega⟩
            have hmz : (k : Int) + (q : Int) - 1 = (m : Int) := by omega
            have HS : Hid (PS w wr (arr xs n j) → PS w (((wr.setCell ⟨w.heap.size + 1 + 1, p, none⟩ (.int .u16 (nth (arr xs n j) m : Int))).setCell ⟨w.heap.size + 1 + 1, m, none⟩ (.int .u16 (nth (arr xs n j) p : Int)))) (arr xs n (j + 1))) := Lib.hid (fun h => by
              rw [← arr_step (k := k) (p := p) (m := m) hn hk1 hp (by omega) (by omega)]
              exact (h.put p _).put m _)
            have HPS := Lib.hid (HS.out HP.out)
            have c1 := HP.out.2.2.1.cell (k := p) (by rw [arr_len]; omega)
            have c2 := HP.out.2.2.1.cell (k := m) (by rw [arr_len]; omega)
            have f1 := HP.out.2.2.1.frozen p
            have f2 := HP.out.2.2.1.frozen m
            obtain ⟨y1, hy1⟩ : ∃ y, nth (arr xs n j) p = y := ⟨_, rfl⟩
            obtain ⟨y2, hy2⟩ : ∃ y, nth (arr xs n j) m = y := ⟨_, rfl⟩
            rw [hy1] at c1 HPS
            rw [hy2] at c2 HPS
            have HQ2 := HP.out.put p y2
            have c3 := HQ2.2.2.1.cell (k := m) (by rw [List.length_set, arr_len]; omega)
            have f3 := HQ2.2.2.1.frozen m
            obtain ⟨y3, hy3⟩ : ∃ y, nth ((arr xs n j).set p y2) m = y := ⟨_, rfl⟩
            rw [hy3] at c3
            clear HQ2 hy3
            have b1 : (0 : Int) ≤ (p : Int) := by omega
            have b2 : (p : Int) < 8 := by omega
            have b3 : (0 : Int) ≤ (m : Int) := by omega
            have b4 : (m : Int) < 8 := by omega
            have e1 : (p : Int).toNat = p := by omega
            have e2 : (m : Int).toNat = m := by omega
            have hwp : IntKind.i64.wrap (p : Int) = (p : Int) := IntWalk.i64_in _ (by omega)
            have hwm : IntKind.i64.wrap (m : Int) = (m : Int) := IntWalk.i64_in _ (by omega)
            clear HS hy1 hy2
            go_upto_region 46 with fail
            go_region
            go_wp2_with fail
            go_roundg (q - 1)
            case measure => omega
            case rel => exact ⟨j + 1, p - 1, q - 1, by go_num, by go_num, rfl, by omega, by omega, Lib.hid HPS.out.drew⟩
end Go.Proofs.YtcoppicieicikaaDoor.Sx
