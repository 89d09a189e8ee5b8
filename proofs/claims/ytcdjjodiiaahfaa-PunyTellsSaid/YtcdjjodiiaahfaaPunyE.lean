/-
  Contracts of strings.LastIndexByte, puny.parts.
-/
import Derived.Test.YtcdjjodiiaahfaaPunyD
import Derived.Deep.QuietTactic
import Derived.BigQuiet
namespace Go.Proofs.Ytcdjjodiiaahfaa
open Go.RowKit Puny

/-- the last place of a sign, or -1 -/
def LastIs (l : List UInt8) (c : UInt8) (r : Int) : Prop := (r = -1 ∧ c ∉ l) ∨ ∃ a b, l = a ++ c :: b ∧ c ∉ b ∧ r = (a.length : Int)

def Last (l : List UInt8) (c : Int) (w : World) (e : Ending) (w' : World) : Prop := ∃ r, e = .returned (.int .i64 r) ∧ LastIs l (UInt8.ofNat c.toNat) r ∧ w = w'

theorem last_none {l : List UInt8} {c : UInt8} (h : c ∉ l.drop 0) : LastIs l c (-1) := .inl ⟨rfl, by simpa using h⟩
theorem last_some {l : List UInt8} {c : UInt8} {i : Nat} (hi : i < l.length) (he : l[i] = c) (h : c ∉ l.drop (i + 1)) : LastIs l c i := by
  refine .inr ⟨l.take i, l.drop (i + 1), ?_, h, by rw [List.length_take]; omega⟩
  rw [← he, ← List.drop_eq_getElem_cons hi, List.take_append_drop]

set_option maxHeartbeats 1000000 in
theorem LastIndexByteString_any (s : ByteArray) (c : Int) (w : World) (hs : s.size ≤ 1000000) (hc0 : 0 ≤ c) (hc : c ≤ 255) :
    Calls Try.prog 37 #[.string s, .int .u8 c] w (Last s.data.toList c w) := by
  go_enter Try.func37, Try.ntmps37
  go_wp2
  go_loop [5] (fun i => ∃ k : Nat, k ≤ s.size ∧ i = .int .i64 ((k : Int) - 1) ∧ UInt8.ofNat c.toNat ∉ s.data.toList.drop k) (fun i => (intOf i + 1).toNat)
  case atStart => exact ⟨s.size, Nat.le_refl _, rfl, by rw [List.drop_of_length_le (by simp)]; simp⟩
  case round =>
    obtain ⟨k, hk, rfl, hnot⟩ := hrel
    have HN := Lib.hid hnot
    clear hnot
    cases k with
    | zero =>
      go_wp2
      go_ret
      exact ⟨-1, rfl, last_none HN.out, rfl⟩
    | succ k =>
      have hlt : k < s.size := by omega
      have hkk : (((k + 1 : Nat) : Int) - 1) = (k : Int) := by omega
      rw [hkk]
      clear hkk
      by_cases he : (s[k].toNat : Int) = c
      · have HE := Lib.hid he
        have hq : ((s[k].toNat : Int) == c) = true := by simpa using he
        clear he
        go_wp2
        go_ret
        refine ⟨k, rfl, last_some (by simpa using hlt) ?_ HN.out, rfl⟩
        rw [← HE.out]
        simp
        rfl
      · have HE := Lib.hid he
        have hq : ((s[k].toNat : Int) == c) = false := by simpa using he
        clear he
        go_wp2
        go_round
        case rel =>
          refine ⟨k, by omega, by go_num, ?_⟩
          rw [List.drop_eq_getElem_cons (by simpa using hlt), List.mem_cons]
          rintro (h | h)
          · refine HE.out ?_
            have := congrArg UInt8.toNat h
            simp at this
            have e3 : s.data[k] = s[k] := rfl
            rw [e3] at this
            omega
          · exact HN.out h
        case measure => simp [intOf]

theorem LastIndexByte_any (s : ByteArray) (c : Int) (w : World) (hs : s.size ≤ 1000000) (hc0 : 0 ≤ c) (hc : c ≤ 255) :
    Calls Try.prog 16 #[.string s, .int .u8 c] w (Last s.data.toList c w) := by
  go_enter Try.func16, Try.ntmps16
  go_wp2_with (first | (go_at_call 37; refine (LastIndexByteString_any _ _ _ hs hc0 hc).mono ?_; rintro e w' ⟨r, rfl, hr, rfl⟩) | fail)
  go_ret
  exact ⟨_, rfl, hr, rfl⟩

/-- what 'parts' answers: the three texts of its answer -/
def PartsIs (l basic digits : List UInt8) (ok : Bool) : Prop :=
  (45 ∉ l ∧ basic = [] ∧ digits = l ∧ ok = true) ∨
  ∃ a b, l = a ++ 45 :: b ∧ 45 ∉ b ∧ (((∃ x ∈ a, 128 ≤ x.toNat) ∧ basic = [] ∧ digits = [] ∧ ok = false) ∨ ((∀ x ∈ a, x.toNat < 128) ∧ basic = a ∧ digits = b ∧ ok = decide (0 < a.length)))

def Parted (l : List UInt8) (w : World) (e : Ending) (w' : World) : Prop :=
  ∃ b d ok, e = .returned (.tuple #[.string b, .string d, .bool ok]) ∧ PartsIs l b.data.toList d.data.toList ok ∧ ∃ q, w' = w.drewN q

theorem ext_take (s : ByteArray) (i : Nat) : (s.extract 0 i).data.toList = s.data.toList.take i := by simp [ByteArray.data_extract]
theorem ext_drop (s : ByteArray) (i j : Nat) (h : j = s.size) : (s.extract i j).data.toList = s.data.toList.drop i := by
  subst h
  simp [ByteArray.data_extract]
  exact List.take_of_length_le (by simp)

theorem get_of {s : ByteArray} {a t : List UInt8} (hl : s.data.toList = a ++ t) {k : Nat} (hk : k < a.length) (h : k < s.size) : s[k] = a[k] := by
  have e : s[k] = s.data.toList[k]'(by simpa using h) := by simp; rfl
  rw [e, List.getElem_of_eq hl, List.getElem_append_left hk]

theorem parted_mk {l bl dl : List UInt8} {b d : ByteArray} {ok : Bool} {w w' : World} (hb : b.data.toList = bl) (hd : d.data.toList = dl) (h : PartsIs l bl dl ok) (hw : ∃ q, w' = w.drewN q) : Parted l w (.returned (.tuple #[.string b, .string d, .bool ok])) w' :=
  ⟨b, d, ok, rfl, by rw [hb, hd]; exact h, hw⟩

set_option maxHeartbeats 1000000 in
theorem parts_any (s : ByteArray) (w : World) (hs : s.size ≤ 1000000) : Calls Try.prog 30 #[.string s] w (Parted s.data.toList w) := by
  go_enter Try.func30, Try.ntmps30
  go_wp2_with fail
  refine (LastIndexByte_any _ _ _ hs (by omega) (by omega)).mono ?_
  rintro e w' ⟨r, rfl, hr, rfl⟩
  rcases hr with ⟨rfl, hno⟩ | ⟨a, b, hl, hb, rfl⟩
  · have HN := Lib.hid hno
    clear hno
    go_wp2
    go_ret3
    exact parted_mk rfl rfl (.inl ⟨HN.out, rfl, rfl, rfl⟩) ⟨0, rfl⟩
  · have hsz : a.length < s.size := by
      have : s.data.toList.length = s.size := by simp
      rw [← this, hl]; simp
    have HL := Lib.hid hl
    have HB := Lib.hid hb
    clear hl hb
    go_wp2
    go_loop [13] (fun i => ∃ k : Nat, k ≤ a.length ∧ i = .int .i64 k ∧ ∀ x ∈ a.take k, x.toNat < 128) (fun i => a.length - (intOf i).toNat)
    case atStart => exact ⟨0, by omega, rfl, by simp⟩
    case round =>
      obtain ⟨k, hk, rfl, hall⟩ := hrel
      have HA := Lib.hid hall
      clear hall
      by_cases hlt : k < a.length
      · have hks : k < s.size := by omega
        have hg := get_of HL.out hlt hks
        have HG := Lib.hid hg
        clear hg
        by_cases hbig : 128 ≤ (s[k].toNat : Int)
        · go_wp2
          go_ret3
          exact parted_mk (bl := []) (dl := []) rfl rfl (.inr ⟨a, b, HL.out, HB.out, .inl ⟨⟨a[k], List.getElem_mem hlt, by rw [← HG.out]; omega⟩, rfl, rfl, rfl⟩⟩) ⟨0, rfl⟩
        · go_wp2
          go_round
          case rel =>
            refine ⟨k + 1, by omega, by go_num, fun x hx => ?_⟩
            rw [List.take_succ_eq_append_getElem hlt] at hx
            rcases List.mem_append.1 hx with hx | hx
            · exact HA.out x hx
            · rw [List.mem_singleton.1 hx, ← HG.out]; omega
          case measure => simp [intOf]; omega
      · obtain rfl : k = a.length := by omega
        have h1 : 0 ≤ (a.length : Int) := by omega
        have h2 : (a.length : Int) ≤ s.size := by omega
        have h3 : (a.length : Int) + 1 ≤ s.size := by omega
        go_wp2
        go_quiet (fail)
        go_wp2
        go_ret3
        refine parted_mk (bl := a) (dl := b) ?_ ?_ (.inr ⟨a, b, HL.out, HB.out, .inr ⟨by simpa using HA.out, rfl, rfl, ?_⟩⟩) ⟨_, rfl⟩
        · rw [ext_take, HL.out, List.take_left]
        · rw [ext_drop _ _ _ rfl, HL.out, List.drop_append, List.drop_of_length_le (by omega), List.nil_append, show a.length + 1 - a.length = 1 by omega]; rfl
        · rfl
end Go.Proofs.Ytcdjjodiiaahfaa
