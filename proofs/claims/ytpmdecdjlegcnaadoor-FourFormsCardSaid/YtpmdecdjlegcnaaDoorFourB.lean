/-
  Texts as bytes; strings.LastIndex and strings.TrimSuffix at a point.
-/
import Derived.Test.YtpmdecdjlegcnaaDoorFourA
import Derived.Test.YtpmdecdjlegcnaaDoorWords
import Derived.Test.YtpmdecdjlegcnaaDoorChecked
import Derived.WalkKit
import Derived.Lib.Hide
import Derived.IntWalk
import Derived.Outline
import Derived.Handy
import Derived.Deep.QuietTactic
import Derived.BigQuiet
namespace Go.Proofs.YtpmdecdjlegcnaaDoor.Fou
open Go.RowKit

abbrev dl (s : ByteArray) : List UInt8 := s.data.toList
theorem bytes_ext {s t : ByteArray} : s = t ↔ s.data.toList = t.data.toList := ⟨fun h => by rw [h], fun h => by cases s; cases t; simpa using h⟩
theorem str_beq (s t : ByteArray) : (s.toList == t.toList) = decide (s = t) := by
  rw [ByteArray.toList_eq, ByteArray.toList_eq]
  by_cases h : s = t
  · subst h; simp
  · rw [decide_eq_false h]
    exact beq_eq_false_iff_ne.2 fun e => h (bytes_ext.2 e)
def bs (l : List UInt8) : ByteArray := ⟨l.toArray⟩
theorem bs_data (l : List UInt8) : (bs l).data.toList = l := by simp [bs]
theorem bs_eq {s : ByteArray} {l : List UInt8} (h : s.data.toList = l) : s = bs l := bytes_ext.2 (by rw [h, bs_data])
theorem bs_size (l : List UInt8) : (bs l).size = l.length := by rw [Lib.size_eq, bs_data]
theorem ext_take (s : ByteArray) (i : Nat) : (s.extract 0 i).data.toList = s.data.toList.take i := by simp [ByteArray.data_extract]
theorem ext_drop (s : ByteArray) (i j : Nat) (h : j = s.size) : (s.extract i j).data.toList = s.data.toList.drop i := by
  subst h
  simp [ByteArray.data_extract]
  exact List.take_of_length_le (by simp)
theorem get_of {s : ByteArray} {a t : List UInt8} (hl : s.data.toList = a ++ t) {k : Nat} (hk : k < a.length) (h : k < s.size) : s[k] = a[k] := by
  have e : s[k] = s.data.toList[k]'(by simpa using h) := by simp; rfl
  rw [e, List.getElem_of_eq hl, List.getElem_append_left hk]
theorem get_dl {s : ByteArray} {k : Nat} (h : k < s.size) : s[k] = (dl s)[k]'(by simpa using h) := by simp [dl]; rfl

/-- the last place of a sign, or -1 -/
def LastIs (l : List UInt8) (c : UInt8) (r : Int) : Prop := (r = -1 ∧ c ∉ l) ∨ ∃ a b, l = a ++ c :: b ∧ c ∉ b ∧ r = (a.length : Int)
def Last (l : List UInt8) (c : Int) (w : World) (e : Ending) (w' : World) : Prop := ∃ r, e = .returned (.int .i64 r) ∧ LastIs l (UInt8.ofNat c.toNat) r ∧ w = w'
theorem last_none {l : List UInt8} {c : UInt8} (h : c ∉ l.drop 0) : LastIs l c (-1) := .inl ⟨rfl, by simpa using h⟩
theorem last_some {l : List UInt8} {c : UInt8} {i : Nat} (hi : i < l.length) (he : l[i] = c) (h : c ∉ l.drop (i + 1)) : LastIs l c i := by
  refine .inr ⟨l.take i, l.drop (i + 1), ?_, h, by rw [List.length_take]; omega⟩
  rw [← he, ← List.drop_eq_getElem_cons hi, List.take_append_drop]

set_option maxHeartbeats 1000000 in
theorem LastIndexByteString_any (s : ByteArray) (c : Int) (w : World) (hs : s.size ≤ 1000000) (hc0 : 0 ≤ c) (hc : c ≤ 255) :
    Calls Tryd.prog 45 #[.string s, .int .u8 c] w (Last s.data.toList c w) := by
  go_enter Tryd.func45, Tryd.ntmps45
  go_wp2
  go_loop [5] (fun i => ∃ k : Nat, k ≤ s.size ∧ i = .int .i64 ((k : Int) - 1) ∧ UInt8.ofNat c.toNat ∉ s.data.toList.drop k) (fun i => (intOf i + 1).toNat)
  case atStart => exact ⟨s.size, Nat.le_refl _, rfl, by rw [List.drop_of_length_le (by simp)]; simp⟩
  case round =>
    obtain ⟨k, hk, rfl, hnot⟩ := hrel
    have HN := Lib.hid hnot
    clear hnot
    cases k with
    | zero =>
      go_wp2
      go_ret
      exact ⟨-1, rfl, last_none HN.out, rfl⟩
    | succ k =>
      have hlt : k < s.size := by omega
      have hkk : (((k + 1 : Nat) : Int) - 1) = (k : Int) := by omega
      rw [hkk]
      clear hkk
      by_cases he : (s[k].toNat : Int) = c
      · have HE := Lib.hid he
        have hq : ((s[k].toNat : Int) == c) = true := by simpa using he
        clear he
        go_wp2
        go_ret
        refine ⟨k, rfl, last_some (by simpa using hlt) ?_ HN.out, rfl⟩
        rw [← HE.out]
        simp
        rfl
      · have HE := Lib.hid he
        have hq : ((s[k].toNat : Int) == c) = false := by simpa using he
        clear he
        go_wp2
        go_round
        case rel =>
          refine ⟨k, by omega, by go_num, ?_⟩
          rw [List.drop_eq_getElem_cons (by simpa using hlt), List.mem_cons]
          rintro (h | h)
          · refine HE.out ?_
            have := congrArg UInt8.toNat h
            simp at this
            have e3 : s.data[k] = s[k] := rfl
            rw [e3] at this
            omega
          · exact HN.out h
        case measure => simp [intOf]

def LastDot (l : List UInt8) (w : World) (e : Ending) (w' : World) : Prop := ∃ r, e = .returned (.int .i64 r) ∧ LastIs l 46 r ∧ w = w'
theorem LastIndex_dot (s : ByteArray) (w : World) (hs : s.size ≤ 1000000) :
    Calls Tryd.prog 55 #[.string s, .string ⟨#[46]⟩] w (LastDot s.data.toList w) := by
  go_enter Tryd.func55, Tryd.ntmps55
  go_wp2_with (first | (go_at_call 45; refine (LastIndexByteString_any _ _ _ hs (by decide) (by decide)).mono ?_; rintro e w' ⟨r, rfl, hr, rfl⟩) | fail)
  go_ret
  exact ⟨_, rfl, hr, rfl⟩

def IsBool (q : Bool) (w : World) (e : Ending) (w' : World) : Prop := e = .returned (.bool q) ∧ w = w'
def Trimmed (l : List UInt8) (w : World) (e : Ending) (w' : World) : Prop := ∃ t : ByteArray, e = .returned (.string t) ∧ dl t = trm l ∧ w = w'
theorem last_of {l : List UInt8} (h : l ≠ []) : (l.getLast? = some 46) ↔ l.drop (l.length - 1) = [46] := by
  obtain ⟨a, b, rfl⟩ : ∃ a b, l = a ++ [b] := ⟨l.dropLast, l.getLast h, (List.dropLast_concat_getLast h).symm⟩
  simp
theorem HasSuffix_dot (s : ByteArray) (w : World) (hs : s.size ≤ 1000000) :
    Calls Tryd.prog 73 #[.string s, .string ⟨#[46]⟩] w (IsBool (decide (s.data.toList.getLast? = some 46)) w) := by
  by_cases h0 : s.size = 0
  · have he : s.data.toList = [] := List.eq_nil_of_length_eq_zero (by rw [← Lib.size_eq]; exact h0)
    have hd : decide (s.data.toList.getLast? = some 46) = false := by rw [he]; rfl
    rw [hd]
    have h1 : ¬ ((1 : Int) ≤ s.size) := by omega
    clear he hd h0
    go_enter Tryd.func73, Tryd.ntmps73
    go_wp2
    go_ret
    exact ⟨rfl, rfl⟩
  · have h1 : ((1 : Int) ≤ s.size) := by omega
    have hne : s.data.toList ≠ [] := fun e => h0 (by rw [Lib.size_eq, e]; rfl)
    have hd : ((s.extract (s.size - 1) s.size).toList == ([46] : List UInt8)) = decide (s.data.toList.getLast? = some 46) := by
      rw [show ([46] : List UInt8) = (⟨#[46]⟩ : ByteArray).toList by rw [ByteArray.toList_eq], str_beq]
      refine decide_eq_decide.2 ?_
      rw [bytes_ext, ext_drop _ _ _ rfl, last_of hne, ← Lib.size_eq]
    have HD := Lib.hid hd
    clear hd hne h0
    go_enter Tryd.func73, Tryd.ntmps73
    go_wp2
    go_ret
    refine ⟨?_, rfl⟩
    rw [← HD.out]
    rfl
theorem TrimSuffix_dot (s : ByteArray) (w : World) (hs : s.size ≤ 1000000) :
    Calls Tryd.prog 26 #[.string s, .string ⟨#[46]⟩] w (Trimmed s.data.toList w) := by
  have H := Lib.hid (HasSuffix_dot s w hs)
  obtain ⟨q, hq⟩ : ∃ q, decide (s.data.toList.getLast? = some 46) = q := ⟨_, rfl⟩
  rw [hq] at H
  have h1 : Calls Tryd.prog 44 #[.string s, .string ⟨#[46]⟩] w (Trimmed s.data.toList w) := by
    cases q with
    | true =>
      have hl := of_decide_eq_true hq
      have hz : ((1 : Int) ≤ s.size) := by
        have : s.data.toList ≠ [] := fun e => by rw [e] at hl; cases hl
        have := List.length_pos_iff.2 this
        rw [← Lib.size_eq] at this
        omega
      have HL := Lib.hid hl
      clear hq hl
      go_enter Tryd.func44, Tryd.ntmps44
      go_wp2_with (first | (go_at_call 73; refine H.out.mono ?_; rintro e w' ⟨rfl, rfl⟩) | fail)
      go_ret
      refine ⟨_, rfl, ?_, rfl⟩
      rw [dl, ext_take, trm, if_pos HL.out, List.dropLast_eq_take, ← Lib.size_eq]
    | false =>
      have HL := Lib.hid (of_decide_eq_false hq)
      clear hq
      go_enter Tryd.func44, Tryd.ntmps44
      go_wp2_with (first | (go_at_call 73; refine H.out.mono ?_; rintro e w' ⟨rfl, rfl⟩) | fail)
      go_ret
      exact ⟨_, rfl, (trm_no HL.out).symm, rfl⟩
  have H1 := Lib.hid h1
  clear h1 H hq
  go_enter Tryd.func26, Tryd.ntmps26
  go_wp2_with (first | (go_at_call 44; refine H1.out.mono ?_; rintro e w' ⟨t, rfl, ht, rfl⟩) | fail)
  go_ret
  exact ⟨_, rfl, ht, rfl⟩
end Go.Proofs.YtpmdecdjlegcnaaDoor.Fou
