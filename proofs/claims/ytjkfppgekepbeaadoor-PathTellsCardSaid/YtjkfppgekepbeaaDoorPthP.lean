/-
  Small letters of any text: who is told as dots is of ASCII; ReplaceAll laid.
-/
import Derived.Test.YtjkfppgekepbeaaDoorPthO
import Derived.Shelf.Strings.Replace
namespace Go.Proofs.YtjkfppgekepbeaaDoor.Pth
set_option maxRecDepth 100000
open Go.RowKit Go.Shelf Utf Ut Hst

/-- the letters of dots -/
def dotC (r : Int) : Bool := decide (r ∈ ([46, 37, 50, 101] : List Int))
def rowD (x : Lib.CaseRow) : Bool := decide (x.2.1 < 128) || (decide (128 ≤ x.1) && [(46 : Int), 37, 50, 101].all fun d => decide (x.2.2.2.1 > 1114111) || decide ((x.2.1 : Int) + x.2.2.2.1 < d) || decide (d < (x.1 : Int) + x.2.2.2.1))
set_option maxRecDepth 1000000 in
theorem rowsD : Lib.caseT.all rowD = true := by decide +kernel
theorem caseA_rowD (i : Nat) (hi : i < Lib.caseA.size) : rowD (Lib.caseA.getD i (0, 0, 0, 0, 0)) = true := by
  have hm : Lib.caseA.getD i (0, 0, 0, 0, 0) ∈ Lib.caseT := by
    unfold Lib.caseA at hi ⊢
    simp only [List.size_toArray] at hi
    simp [Array.getD, hi]
  exact List.all_eq_true.1 rowsD _ hm
theorem dotC_cases {r : Int} (h : dotC r = true) : r = 46 ∨ r = 37 ∨ r = 50 ∨ r = 101 := by
  have := of_decide_eq_true h
  simpa using this
theorem lower_dot {r : Int} (h : 128 ≤ r) : dotC (Lib.toLowerU r) = false := by
  cases hd : dotC (Lib.toLowerU r) with
  | false => rfl
  | true =>
    exfalso
    have hc := dotC_cases hd
    unfold Lib.toLowerU at hc
    rw [if_neg (by omega)] at hc
    unfold Lib.toR Lib.lookupGo at hc
    cases hi : Lib.lookupIdx Lib.caseA r (Lib.caseA.size + 1) 0 Lib.caseA.size with
    | none => rw [hi] at hc; simp at hc; omega
    | some i =>
      rw [hi] at hc
      obtain ⟨hil, hlo, hhi⟩ := Lib.lookupIdx_some Lib.caseA r _ _ _ i hi
      have hr := caseA_rowD i hil
      simp only [Option.map_some] at hc
      generalize Lib.caseA.getD i (0, 0, 0, 0, 0) = x at hc hlo hhi hr
      unfold rowD at hr
      simp only [Bool.or_eq_true, Bool.and_eq_true, decide_eq_true_eq, List.all_cons, List.all_nil, Bool.and_true] at hr
      unfold Lib.convertR at hc
      simp only [Lib.CaseRow.delta] at hc
      split at hc <;> omega
theorem decode_big (s : ByteArray) (i : Nat) (h : 128 ≤ (s.get! i).toNat) : 128 ≤ (Utf8.decode s i).1 := by
  unfold Utf8.decode
  simp only [Nat.add_zero]
  rw [if_neg (by omega)]
  have e : 128 ≤ Utf8.runeError := by decide
  split
  · split
    · assumption
    · exact e
  · split
    · split
      · rename_i h2
        simp only [Bool.and_eq_true, decide_eq_true_eq] at h2
        omega
      · exact e
    · split
      · split
        · rename_i h2
          simp only [Bool.and_eq_true, decide_eq_true_eq] at h2
          omega
        · exact e
      · exact e
theorem enc_dot {r : Int} (h0 : 0 ≤ r) (h : dotC r = false) : ∃ b ∈ Lib.encodeRune r, dotC (b.toNat : Int) = false := by
  unfold Lib.encodeRune
  by_cases h1 : r ≤ 127
  · rw [Lib.encodeRuneZ_one h0 h1]
    refine ⟨_, List.mem_cons_self .., ?_⟩
    obtain ⟨n, rfl⟩ := Int.eq_ofNat_of_zero_le h0
    have e : ((n : Int).toNat.toUInt8.toNat : Int) = n := by
      rw [Int.toNat_natCast]
      show ((UInt8.ofNat n).toNat : Int) = n
      rw [UInt8.toNat_ofNat']
      omega
    rw [e]
    exact h
  · have hb : ∃ x t, Lib.encodeRuneZ r = x :: t ∧ 128 ≤ x ∧ x ≤ 255 := by
      unfold Lib.encodeRuneZ
      rw [if_neg (by omega)]
      split
      · exact ⟨_, _, rfl, by omega, by omega⟩
      · split
        · exact ⟨_, _, rfl, by omega, by omega⟩
        · split
          · exact ⟨_, _, rfl, by omega, by omega⟩
          · exact ⟨_, _, rfl, by omega, by omega⟩
    obtain ⟨x, t, hx, h128, h255⟩ := hb
    rw [hx]
    refine ⟨_, List.mem_cons_self .., ?_⟩
    obtain ⟨n, rfl⟩ := Int.eq_ofNat_of_zero_le (show 0 ≤ x by omega)
    have e : ((n : Int).toNat.toUInt8.toNat : Int) = n := by
      rw [Int.toNat_natCast]
      show ((UInt8.ofNat n).toNat : Int) = n
      rw [UInt8.toNat_ofNat']
      omega
    rw [e]
    unfold dotC
    rw [decide_eq_false_iff_not]
    simp only [List.mem_cons, List.not_mem_nil, or_false]
    omega
/-- who is told as letters of dots alone is of ASCII -/
theorem low_dots : ∀ (n : Nat) (l : List UInt8), l.length ≤ n → (∀ b ∈ Lib.toLowerD l, dotC (b.toNat : Int) = true) → ∀ b ∈ l, b.toNat < 128
  | _, [], _, _ => by intro b hb; cases hb
  | 0, c :: t, h, _ => by simp at h
  | n + 1, c :: t, h, hd => by
    unfold Lib.toLowerD at hd
    rw [Lib.mapD_step Lib.toLowerU (c :: t) (by simp)] at hd
    have hr := (Lib.toLowerU_range (Lib.decodeL (c :: t)).1 (Lib.decodeL_rune _)).1
    rw [if_pos hr] at hd
    by_cases hc : c.toNat < 128
    · rw [Lib.decodeL_ascii c t hc] at hd
      have ih := low_dots n t (by simp at h; omega) (fun b hb => hd b (List.mem_append_right _ hb))
      intro b hb
      rcases List.mem_cons.1 hb with rfl | hb
      · exact hc
      · exact ih b hb
    · exfalso
      have hg : ((⟨(c :: t).toArray⟩ : ByteArray).get! 0) = c := rfl
      have h128 := decode_big ⟨(c :: t).toArray⟩ 0 (by rw [hg]; omega)
      obtain ⟨b, hb, hbd⟩ := enc_dot hr (lower_dot (r := ((Lib.decodeL (c :: t)).1 : Int)) (by have : 128 ≤ (Lib.decodeL (c :: t)).1 := h128; omega))
      rw [hd b (List.mem_append_left _ hb)] at hbd
      cases hbd
theorem oneL_dots {D : List UInt8} (h : oneL D = true) : ∀ b ∈ D, dotC (b.toNat : Int) = true := by
  unfold oneL at h
  rw [Bool.or_eq_true] at h
  rcases h with h | h
  · rw [of_decide_eq_true h]; decide
  · rw [of_decide_eq_true h]; decide
theorem twoL_dots {D : List UInt8} (h : twoL D = true) : ∀ b ∈ D, dotC (b.toNat : Int) = true := by
  unfold twoL at h
  simp only [Bool.or_eq_true] at h
  rcases h with ((h | h) | h) | h
  · rw [of_decide_eq_true h]; decide
  · rw [of_decide_eq_true h]; decide
  · rw [of_decide_eq_true h]; decide
  · rw [of_decide_eq_true h]; decide
/-- dots, of any text: those of its ASCII letters, if it has no other byte -/
def asc (l : List UInt8) : Bool := l.all fun b => decide (b.toNat < 128)
theorem one_any (l : List UInt8) : oneL (Lib.toLowerD l) = (asc l && sglL l) := by
  cases ha : asc l with
  | true =>
    rw [Lib.toLowerD_ascii l (fun b hb => of_decide_eq_true (List.all_eq_true.1 ha b hb))]
    rfl
  | false =>
    rw [Bool.false_and]
    cases ho : oneL (Lib.toLowerD l) with
    | false => rfl
    | true =>
      have := low_dots l.length l (Nat.le_refl _) (oneL_dots ho)
      have : asc l = true := List.all_eq_true.2 fun b hb => decide_eq_true (this b hb)
      rw [ha] at this
      cases this
theorem two_any (l : List UInt8) : twoL (Lib.toLowerD l) = (asc l && dblL l) := by
  cases ha : asc l with
  | true =>
    rw [Lib.toLowerD_ascii l (fun b hb => of_decide_eq_true (List.all_eq_true.1 ha b hb))]
    rfl
  | false =>
    rw [Bool.false_and]
    cases ho : twoL (Lib.toLowerD l) with
    | false => rfl
    | true =>
      have := low_dots l.length l (Nat.le_refl _) (twoL_dots ho)
      have : asc l = true := List.all_eq_true.2 fun b hb => decide_eq_true (this b hb)
      rw [ha] at this
      cases this
def rplLaid_ren : Ren := ⟨fun | 155 => 26 | 154 => 45 | 138 => 63 | 165 => 46 | 143 => 39 | 166 => 47 | 197 => 64 | 169 => 49 | 195 => 81 | 218 => 82 | 240 => 65 | 241 => 66 | 219 => 60 | 260 => 83 | 276 => 84 | 277 => 85 | 217 => 74 | 225 => 75 | 224 => 76 | 267 => 77 | 266 => 88 | 314 => 89 | n => n, fun | 9 => 9 | 3 => 3 | 4 => 4 | 72 => 61 | 0 => 0 | 76 => 65 | 105 => 76 | 21 => 21 | 5 => 5 | 70 => 59 | 20 => 20 | 37 => 40 | 75 => 64 | 127 => 78 | 164 => 91 | 46 => 74 | 119 => 100 | 139 => 103 | 138 => 102 | 146 => 98 | 51 => 97 | 80 => 68 | n => n, fun | 1 => 0 | 3 => 2 | 4 => 3 | n => n⟩
theorem rplLaid : Lays.n155 Tryd.prog rplLaid_ren := {
  mixed := by kernel_rfl
  f138 := by kernel_rfl
  f143 := by kernel_rfl
  f154 := by kernel_rfl
  f155 := by kernel_rfl
  f165 := by kernel_rfl
  f166 := by kernel_rfl
  f169 := by kernel_rfl
  f195 := by kernel_rfl
  f197 := by kernel_rfl
  f217 := by kernel_rfl
  f218 := by kernel_rfl
  f219 := by kernel_rfl
  f224 := by kernel_rfl
  f225 := by kernel_rfl
  f240 := by kernel_rfl
  f241 := by kernel_rfl
  f260 := by kernel_rfl
  f266 := by kernel_rfl
  f267 := by kernel_rfl
  f276 := by kernel_rfl
  f277 := by kernel_rfl
  f314 := by kernel_rfl
  t0 := Tryd.underlying0
  a0 := Tryd.isAgg0
  z0 := Tryd.sizeOf0
  v0 := Tryd.zeroValue0
  t3 := Tryd.underlying3
  a3 := Tryd.isAgg3
  z3 := Tryd.sizeOf3
  v3 := Tryd.zeroValue3
  t4 := Tryd.underlying4
  a4 := Tryd.isAgg4
  z4 := Tryd.sizeOf4
  v4 := Tryd.zeroValue4
  t5 := Tryd.underlying5
  a5 := Tryd.isAgg5
  z5 := Tryd.sizeOf5
  v5 := Tryd.zeroValue5
  t9 := Tryd.underlying9
  a9 := Tryd.isAgg9
  z9 := Tryd.sizeOf9
  v9 := Tryd.zeroValue9
  t20 := Tryd.underlying20
  a20 := Tryd.isAgg20
  z20 := Tryd.sizeOf20
  v20 := Tryd.zeroValue20
  t21 := Tryd.underlying21
  a21 := Tryd.isAgg21
  z21 := Tryd.sizeOf21
  v21 := Tryd.zeroValue21
  t37 := Tryd.underlying40
  a37 := Tryd.isAgg40
  z37 := Tryd.sizeOf40
  v37 := Tryd.zeroValue40
  t46 := Tryd.underlying74
  a46 := Tryd.isAgg74
  z46 := Tryd.sizeOf74
  v46 := Tryd.zeroValue74
  t51 := Tryd.underlying97
  a51 := Tryd.isAgg97
  z51 := Tryd.sizeOf97
  v51 := Tryd.zeroValue97
  t70 := Tryd.underlying59
  a70 := Tryd.isAgg59
  z70 := Tryd.sizeOf59
  v70 := Tryd.zeroValue59
  t72 := Tryd.underlying61
  a72 := Tryd.isAgg61
  z72 := Tryd.sizeOf61
  v72 := Tryd.zeroValue61
  t75 := Tryd.underlying64
  a75 := Tryd.isAgg64
  z75 := Tryd.sizeOf64
  v75 := Tryd.zeroValue64
  t76 := Tryd.underlying65
  a76 := Tryd.isAgg65
  z76 := Tryd.sizeOf65
  v76 := Tryd.zeroValue65
  t105 := Tryd.underlying76
  a105 := Tryd.isAgg76
  z105 := Tryd.sizeOf76
  v105 := Tryd.zeroValue76
  t119 := Tryd.underlying100
  a119 := Tryd.isAgg100
  z119 := Tryd.sizeOf100
  t127 := Tryd.underlying78
  a127 := Tryd.isAgg78
  z127 := Tryd.sizeOf78
  v127 := Tryd.zeroValue78
  t138 := Tryd.underlying102
  a138 := Tryd.isAgg102
  z138 := Tryd.sizeOf102
  v138 := Tryd.zeroValue102
  t139 := Tryd.underlying103
  a139 := Tryd.isAgg103
  z139 := Tryd.sizeOf103
  v139 := Tryd.zeroValue103
  t146 := Tryd.underlying98
  a146 := Tryd.isAgg98
  z146 := Tryd.sizeOf98
  v146 := Tryd.zeroValue98
  t164 := Tryd.underlying91
  a164 := Tryd.isAgg91
  z164 := Tryd.sizeOf91
  v164 := Tryd.zeroValue91
  g1 := by kernel_rfl
  g3 := by kernel_rfl
  g4 := by kernel_rfl
}

theorem rplExtra : Builder.Extra Tryd.prog rplLaid_ren where
  sizeBuilder := by kernel_rfl
  liesBuilder := by kernel_rfl
  t5 := Tryd.underlying5
  a5 := Tryd.isAgg5
  z5 := Tryd.sizeOf5
  v5 := Tryd.zeroValue5
  infoByte := by kernel_rfl
  cellsByte := by kernel_rfl
  sizeByte := by kernel_rfl
  neB5 := by decide
theorem mapGoD_len (f : Int → Int) : ∀ (n : Nat) (l : List UInt8), (Lib.mapGoD f n l).length ≤ 4 * n
  | 0, l => by simp [Lib.mapGoD]
  | n + 1, l => by
    unfold Lib.mapGoD
    split
    · simp
    · have ih := mapGoD_len f n (l.drop (Lib.decodeL l).2)
      have h4 : ∀ r : Int, (Lib.encodeRune r).length ≤ 4 := fun r => by
        unfold Lib.encodeRune Lib.encodeRuneZ
        rw [List.length_map]
        repeat' split
        all_goals simp
      rw [List.length_append]
      have := h4 (f (Lib.decodeL l).1)
      split
      · omega
      · simp
        omega
theorem low_len (l : List UInt8) : (Lib.toLowerD l).length ≤ 4 * l.length := mapGoD_len _ _ _
theorem Replace_any (D : List UInt8) (hD : D.length ≤ 1000000) (w : World) (hE : Env w) : Calls Tryd.prog 26 #[.string ⟨D.toArray⟩, .string ⟨#[37, 50, 101]⟩, .string ⟨#[46]⟩] w (fun e w' => e = .returned (.string ⟨(Lib.replaceAll D [37, 50, 101] [46]).toArray⟩) ∧ Below w.heap.size w w') := by
  obtain ⟨m, hm⟩ := hE.max
  have hs : (⟨D.toArray⟩ : ByteArray).size = D.length := by simp [ByteArray.size]
  refine Any.strings_ReplaceAll rplLaid rplExtra ⟨D.toArray⟩ ⟨#[37, 50, 101]⟩ ⟨#[46]⟩ m w (by omega) hm (by decide) ?_
  have : Lib.countB ⟨D.toArray⟩ ⟨#[37, 50, 101]⟩ ≤ D.length + 1 := Lib.count_le D [37, 50, 101]
  rw [show (⟨#[46]⟩ : ByteArray).size = 1 from rfl]
  omega
end Go.Proofs.YtjkfppgekepbeaaDoor.Pth
