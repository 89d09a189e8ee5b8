/-
  pct: has, further, In, Encode, with the path's set.
-/
import Derived.Test.YtjkfppgekepbeaaDoorPthB
import Derived.Test.YtjkfppgekepbeaaDoorHstE
namespace Go.Proofs.YtjkfppgekepbeaaDoor.Pth
set_option maxRecDepth 100000
open Go.RowKit Utf Ut Hst

theorem known5 (w : World) : Calls Tryd.prog 41 #[.int .u8 5] w (fun e w' => e = .returned (.bool true) ∧ w = w') := by
  go_enter Tryd.func41, Tryd.ntmps41
  go_wp2_with fail
  go_ret
  exact ⟨rfl, rfl⟩
/-- has, at a text of ASCII -/
theorem has_any (s : ByteArray) (hs : 4 ≤ s.size) (hs2 : s.size ≤ 100000) (ha : ∀ (i : Nat) (h : i < s.size), (s[i]'h).toNat < 128) (f : Int → Bool) (hn : ∀ r, 0 ≤ r → r < 128 → decide (0 ≤ Lib.indexByte s.data.toList r.toNat.toUInt8) = f r) (hf : ∀ r, r < 0 ∨ 127 < r → f r = false) (r : Int) (w : World) :
    Calls Tryd.prog 78 #[.string s, .int .i32 r] w (Says (f r) w) := by
  have key : ∃ I : Int, decide (0 ≤ I) = f r ∧ ∀ W, Calls Tryd.prog 94 #[.string s, .int .i32 r] W (Numb I W) := by
    by_cases h : 0 ≤ r ∧ r < 128
    · exact ⟨_, hn r h.1 h.2, fun W => IndexRune_near s r h.1 h.2 W⟩
    · have h' : r < 0 ∨ 127 < r := by omega
      rw [hf r h']
      refine ⟨-1, rfl, fun W => ?_⟩
      by_cases hfd : r = 65533
      · subst hfd
        exact IndexRune_fffd s ha W
      · cases hv : sca r with
        | false => exact IndexRune_bad s r h' hfd hv W
        | true =>
          have h0 : 127 < r := by
            have := of_decide_eq_true hv
            omega
          exact IndexRune_far s hs hs2 ha r h0 hfd hv W
  obtain ⟨I, hI, HC⟩ := key
  have HI := Lib.hid HC
  obtain ⟨q, hq⟩ : ∃ q, f r = q := ⟨_, rfl⟩
  rw [hq] at hI ⊢
  clear HC hq ha hn hf hs hs2
  have HCR : Hid (∀ W, Calls Tryd.prog 90 #[.string s, .int .i32 r] W (Says q W)) := Lib.hid (fun W => by
    go_enter Tryd.func90, Tryd.ntmps90
    go_wp2_with (first | (go_at_call 94; refine (HI.out _).mono ?_; rintro e w1 ⟨rfl, hB⟩) | fail)
    go_ret
    exact ⟨rfl, hB⟩)
  clear HI hI
  go_enter Tryd.func78, Tryd.ntmps78
  go_wp2_with (first | (go_at_call 90; refine (HCR.out _).mono ?_; rintro e w1 ⟨rfl, hB⟩) | fail)
  go_ret
  exact ⟨rfl, hB⟩
/-- the two texts that make the path's set beyond controls -/
def setA (r : Int) : Bool := decide (r ∈ ([63, 94, 96, 123, 125] : List Int))
def setB (r : Int) : Bool := decide (r ∈ ([32, 34, 35, 60, 62] : List Int))
theorem setA_near : ∀ k : Fin 128, decide (0 ≤ Lib.indexByte [63, 94, 96, 123, 125] (k.1.toUInt8)) = setA (k.1 : Int) := by decide +kernel
theorem setB_near : ∀ k : Fin 128, decide (0 ≤ Lib.indexByte [32, 34, 35, 60, 62] (k.1.toUInt8)) = setB (k.1 : Int) := by decide +kernel
theorem setA_far {r : Int} (h : r < 0 ∨ 127 < r) : setA r = false := by
  unfold setA
  rw [decide_eq_false_iff_not]
  intro hm
  simp only [List.mem_cons, List.not_mem_nil, or_false] at hm
  omega
theorem setB_far {r : Int} (h : r < 0 ∨ 127 < r) : setB r = false := by
  unfold setB
  rw [decide_eq_false_iff_not]
  intro hm
  simp only [List.mem_cons, List.not_mem_nil, or_false] at hm
  omega
theorem asc5 (s : ByteArray) (h5 : s.size = 5) (h : ∀ i : Fin 5, (s[i.1]'(by rw [h5]; exact i.2)).toNat < 128) : ∀ (i : Nat) (h : i < s.size), (s[i]'h).toNat < 128 := fun i hi => h ⟨i, by rw [← h5]; exact hi⟩
theorem hasA (r : Int) (w : World) : Calls Tryd.prog 78 #[.string ⟨#[63, 94, 96, 123, 125]⟩, .int .i32 r] w (Says (setA r) w) :=
  has_any ⟨#[63, 94, 96, 123, 125]⟩ (by decide) (by decide) (asc5 _ rfl (by decide)) setA (fun r h0 h1 => by
    obtain ⟨k, rfl⟩ := Int.eq_ofNat_of_zero_le h0
    exact setA_near ⟨k, by omega⟩) (fun _ => setA_far) r w
theorem hasB (r : Int) (w : World) : Calls Tryd.prog 78 #[.string ⟨#[32, 34, 35, 60, 62]⟩, .int .i32 r] w (Says (setB r) w) :=
  has_any ⟨#[32, 34, 35, 60, 62]⟩ (by decide) (by decide) (asc5 _ rfl (by decide)) setB (fun r h0 h1 => by
    obtain ⟨k, rfl⟩ := Int.eq_ofNat_of_zero_le h0
    exact setB_near ⟨k, by omega⟩) (fun _ => setB_far) r w
set_option maxHeartbeats 2000000 in
theorem further5 (r : Int) (w : World) : Calls Tryd.prog 61 #[.int .u8 5, .int .i32 r] w (Says (setA r || setB r) w) := by
  have HA := Lib.hid (fun W => hasA r W)
  have HB := Lib.hid (fun W => hasB r W)
  obtain ⟨a, ha⟩ : ∃ a, setA r = a := ⟨_, rfl⟩
  obtain ⟨b, hb⟩ : ∃ b, setB r = b := ⟨_, rfl⟩
  rw [ha] at HA ⊢
  rw [hb] at HB ⊢
  clear ha hb
  cases a with
  | true =>
    rw [Bool.true_or]
    clear HB
    go_enter Tryd.func61, Tryd.ntmps61
    go_wp2_with (first | (go_at_call 78; ((with_reducible refine (HA.out _).mono ?_); rintro e w1 ⟨rfl, hB1⟩)) | fail)
    go_ret
    exact ⟨rfl, hB1⟩
  | false =>
    rw [Bool.false_or]
    go_enter Tryd.func61, Tryd.ntmps61
    go_wp2_with (first | (go_at_call 78; ((with_reducible refine (HA.out _).mono ?_); rintro e w1 ⟨rfl, hB1⟩)) | (go_at_call 78; ((with_reducible refine (HB.out _).mono ?_); rintro e w2 ⟨rfl, hB2⟩)) | fail)
    go_ret
    exact ⟨rfl, upB hB1 hB2⟩
theorem inP_sets (r : Int) : inP r = (decide (r < 32) || (decide (126 < r) || (setA r || setB r))) := by
  unfold inP setA setB
  rw [Bool.eq_iff_iff]
  simp only [Bool.or_eq_true, decide_eq_true_eq, List.mem_cons, List.not_mem_nil, or_false]
  omega
theorem inP_no {r : Int} (h : inP r = false) : 32 ≤ r ∧ r ≤ 126 := by
  rw [inP_sets, Bool.or_eq_false_iff, Bool.or_eq_false_iff] at h
  have h1 := of_decide_eq_false h.1
  have h2 := of_decide_eq_false h.2.1
  omega
set_option maxHeartbeats 2000000 in
theorem In5 (r : Int) (w : World) : Calls Tryd.prog 42 #[.int .u8 5, .int .i32 r] w (Says (inP r) w) := by
  have HK := Lib.hid (fun W => known5 W)
  have HF := Lib.hid (fun W => further5 r W)
  have HE := Lib.hid (inP_sets r)
  rw [HE.out]
  clear HE
  obtain ⟨q, hq⟩ : ∃ q, (setA r || setB r) = q := ⟨_, rfl⟩
  rw [hq] at HF ⊢
  clear hq
  by_cases h1 : r < 32
  · have hd1 : decide (r < 32) = true := decide_eq_true h1
    rw [hd1, Bool.true_or]
    go_enter Tryd.func42, Tryd.ntmps42
    go_wp2_with (first | (go_at_call 41; refine (HK.out _).mono ?_; rintro e w1 ⟨rfl, rfl⟩) | fail)
    go_ret
    exact ⟨rfl, Below.refl _ _⟩
  · have hd1 : decide (r < 32) = false := decide_eq_false h1
    by_cases h2 : 126 < r
    · have hd2 : decide (126 < r) = true := decide_eq_true h2
      rw [hd1, hd2, Bool.false_or, Bool.true_or]
      go_enter Tryd.func42, Tryd.ntmps42
      go_wp2_with (first | (go_at_call 41; refine (HK.out _).mono ?_; rintro e w1 ⟨rfl, rfl⟩) | fail)
      go_ret
      exact ⟨rfl, Below.refl _ _⟩
    · have hd2 : decide (126 < r) = false := decide_eq_false h2
      rw [hd1, hd2, Bool.false_or, Bool.false_or]
      go_enter Tryd.func42, Tryd.ntmps42
      go_wp2_with (first | (go_at_call 41; refine (HK.out _).mono ?_; rintro e w1 ⟨rfl, rfl⟩) | (go_at_call 61; refine (HF.out _).mono ?_; rintro e w1 ⟨rfl, hB1⟩) | fail)
      go_ret
      exact ⟨rfl, hB1⟩
theorem pP_len (r : Int) : (pP r).length ≤ 12 := by
  unfold pP
  split
  · rw [cds_len]; have := (encOne_len r).2; omega
  · simp
theorem pe_take {l : List Int} {k : Nat} {r : Int} (h : l[k]? = some r) : pe (l.take (k + 1)) = pe (l.take k) ++ pP r := by
  rw [List.take_add_one, h]
  simp [pe]
theorem pe_len (l : List Int) : (pe l).length ≤ 12 * l.length := by
  induction l with
  | nil => simp [pe]
  | cons a t ih =>
    rw [pe, List.flatMap_cons, List.length_append, List.length_cons]
    have := pP_len a
    rw [pe] at ih
    omega
/-- what is told of code points encoded -/
def EncP (l : List Int) (w : World) (e : Ending) (w' : World) : Prop := e = .returned (.tuple #[.string (strOfNums (pe l)), .int .i64 0]) ∧ Below w.heap.size w w'
set_option maxHeartbeats 8000000 in
theorem Encode5_any (l : List Int) (A : Option Addr) (n c : Nat) (w : World) (hn : l.length = n) (hl : n ≤ 20000) (hr : Row w w.heap.size A (cl .i32 l)) : Calls Tryd.prog 25 #[.int .u8 5, .slice A n c] w (EncP l w) := by
  have HK := Lib.hid (fun W => known5 W)
  have HN := Lib.hid hn
  have HR := Lib.hid hr
  obtain ⟨i0, hi, hz0, hz1, hz2⟩ := info_split info_u8
  have HZ := Lib.hid hz2
  clear hn hr
  go_enter Tryd.func25, Tryd.ntmps25
  go_wp2_with (first | (go_at_call 41; refine (HK.out _).mono ?_; rintro e w1 ⟨rfl, rfl⟩) | (at_make; refine wpList_make_own _ rfl _ _ 40 rfl w.heap.size 5 i0 _ 1 Tryd.underlying40 hi hz0 hz1 .i64 .i64 _ n rfl rfl rfl (by rw [HZ.out]; omega) (by unfold maxLen; omega) (Nat.le_refl _) ?_; intro w1 hown1 hgrow1) | fail)
  have hB1 : Below w.heap.size w w1 := (Below.refl _ _).grown hgrow1 (Nat.le_refl _) (fun j e => by cases e)
  go_loopg [6, 17] n (fun m s6 s17 wr => ∃ (k q c' : Nat) (A' : Option Addr), s17 = .int .i64 (k : Int) ∧ s6 = .slice A' q c' ∧ n - k = m ∧ k ≤ n ∧ q ≤ 12 * k ∧ Hid ((pe (l.take k)).length = q) ∧ Hid (wr.ownsRow w.heap.size 5 1 (.slice A' q c') q (cl .u8 (pe (l.take k)))) ∧ Hid (Below w.heap.size w wr))
  case atStart => exact ⟨0, 0, n, _, rfl, rfl, rfl, Nat.zero_le _, Nat.le_refl _, Lib.hid rfl, Lib.hid hown1, Lib.hid hB1⟩
  case round =>
    clear hown1 hB1 hgrow1
    obtain ⟨k, q, c', A', rfl, rfl, rfl, hk, hq, HQ, HO, HB⟩ := hrel
    by_cases hlt : k < n
    · have hltz : (k : Int) < (n : Int) := by omega
      have hk' : k < l.length := by rw [HN.out]; exact hlt
      obtain ⟨r, hr⟩ : ∃ r, l[k]? = some r := ⟨_, List.getElem?_eq_getElem hk'⟩
      obtain ⟨g0, o0, rfl, hb0, hcc⟩ := (HR.out.below HB.out).at_ (by simp; omega)
      have c0 : wr.cell? ⟨g0, o0 + k, none⟩ = some (.int .i32 r) := by rw [hcc k (by simp; omega)]; simp [cl, hr]
      have HT := Lib.hid (pe_take hr)
      have HIN := Lib.hid (fun W => In5 r W)
      have HPL := Lib.hid (pP_len r)
      have hle : w.heap.size ≤ wr.heap.size := HB.out.size
      clear hr hcc hk'
      cases hct : inP r with
      | true =>
        rw [hct] at HIN
        have HP1 : Hid (pP r = cds (encOne r)) := Lib.hid (by unfold pP; rw [if_pos hct])
        have HEN := Lib.hid (fun W A c (h : Row W W.heap.size A (cl .i32 [r])) => Encode_any [r] A 1 c W rfl (by decide) h)
        have HEL := Lib.hid (encOne_len r)
        have HEB := Lib.hid (encOne_byt r)
        obtain ⟨m, hm⟩ : ∃ m, (encOne r).length = m := ⟨_, rfl⟩
        have hm4 : m ≤ 4 := by rw [← hm]; exact HEL.out.2
        have HM := Lib.hid hm
        unfold MadeBytes at HEN
        rw [enc_one] at HEN
        rw [hm] at HEN
        clear hct hm
        go_upto_region 7 with fail
        go_upto_region 8 with (first | (go_at_call 42; refine (HIN.out _).mono ?_; rintro e w2 ⟨rfl, hB2⟩) | fail)
        have HO2 := Lib.hid (own_below HO.out hB2)
        have HO1 := Lib.hid (HO2.out.alloc (.cells #[.int .i32 r] 21))
        have hle2 : w.heap.size ≤ w2.heap.size := Nat.le_trans hle hB2.size
        have HB2 := Lib.hid (HB.out.trans (hB2.mono hle))
        clear hB2
        have HQ2 : Hid ((pe (l.take (k + 1))).length = q + 3 * m) := Lib.hid (by rw [HT.out, HP1.out, List.length_append, cds_len, HM.out, HQ.out])
        go_wp2_with (first
          | (go_at_call 44; refine (HEN.out _ _ _ (by rw [World.size_alloc]; exact row_new _ _ 21 [.int .i32 r] rfl)).mono ?_; rintro e w3 ⟨v3, rfl, ho3, hb3⟩; obtain ⟨A3, c3, rfl, hc3, hr3⟩ := own_form ho3; have hs3 := hb3.size; rw [World.size_alloc] at hs3)
          | (go_at_call 43; refine (addCodes_any w.heap.size A' q c' (pe (l.take k)) A3 m c3 (encOne r) w3 (by omega) (by omega) (own_below HO1.out hb3) HM.out (by omega) HEB.out hr3 (fun b o f hA e => by
              have h1 := (HO2.out.lt b e).2
              have h2 := (ho3.lt b (by rw [hA]; rfl)).1
              rw [World.size_alloc] at h2
              omega) (fun b o f hA => (ho3.lt b (by rw [hA]; rfl)).2)).mono ?_; rintro e w4 ⟨A4, c4, rfl, hO4, hB4⟩)
          | fail)
        go_roundg (n - (k + 1))
        case measure => omega
        case rel => exact ⟨k + 1, q + 3 * m, c4, A4, by go_num, rfl, rfl, by omega, by omega, HQ2, Lib.hid (by rw [HT.out, HP1.out]; exact hO4), Lib.hid (HB2.out.trans ((((Below.refl _ _).alloc hle2 _).trans (hb3.mono (by rw [World.size_alloc]; omega))).trans hB4))⟩
      | false =>
        rw [hct] at HIN
        have HP1 : Hid (pP r = [r]) := Lib.hid (by unfold pP; rw [if_neg (by rw [hct]; decide)])
        have hrr : 32 ≤ r ∧ r ≤ 126 := inP_no hct
        have hw8 : IntKind.u8.wrap r = r := by simp [IntKind.wrap, IntKind.signed, IntKind.bits]; omega
        have HQ2 : Hid ((pe (l.take (k + 1))).length = q + 1) := Lib.hid (by rw [HT.out, HP1.out, List.length_append, HQ.out]; rfl)
        clear hct
        go_upto_region 7 with fail
        go_wp2_with (first
          | (go_at_call 42; refine (HIN.out _).mono ?_; rintro e w2 ⟨rfl, hB2⟩; have HO1 := own_below HO.out hB2; have hle2 : w.heap.size ≤ w2.heap.size := Nat.le_trans hle hB2.size)
          | (at_builtin; refine wpList_appB w.heap.size _ rfl _ _ rfl (.slice A' q c') q (q + 1) (pe (l.take k)) r rfl HO1 hle2 rfl rfl (by omega) ?_; intro A4 c4 w4 hO4 hB4)
          | fail)
        go_roundg (n - (k + 1))
        case measure => omega
        case rel => exact ⟨k + 1, q + 1, c4, A4, by go_num, rfl, rfl, by omega, by omega, HQ2, Lib.hid (by rw [HT.out, HP1.out]; exact hO4), Lib.hid ((HB.out.trans (hB2.mono hle)).trans hB4)⟩
    · obtain rfl : k = n := by omega
      have hltz : ¬ (k : Int) < (k : Int) := by omega
      have HE : Hid (l.take k = l) := Lib.hid (List.take_of_length_le (by rw [HN.out]; exact Nat.le_refl _))
      have hcv := conv_row (c := c') HQ.out (Row.of_own HO.out)
      rw [HE.out] at hcv
      clear hlt
      go_wp2_with fail
      go_ret2
      exact ⟨rfl, HB.out⟩
end Go.Proofs.YtjkfppgekepbeaaDoor.Pth
