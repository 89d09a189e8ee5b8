/-
  strings.Trim at the ten digits, strings.LastIndexByte; the answers of Number and Parse under one form; a text behind a point.
-/
import Derived.Test.YtpmdecdjlegcnaaDoorFourI
import Derived.Shelf.Strings.SlTrimAscii
namespace Go.Proofs.YtpmdecdjlegcnaaDoor.Fou
open Go.RowKit Go.Shelf

def trimLaid_ren : Ren := ⟨fun | 160 => 28 | 232 => 47 | 231 => 46 | 227 => 48 | 234 => 50 | 233 => 49 | 236 => 52 | 235 => 51 | 228 => 74 | 271 => 77 | 151 => 76 | 197 => 75 | 120 => 99 | 152 => 98 | 260 => 97 | 137 => 25 | 119 => 108 | 224 => 102 | 225 => 101 | 217 => 43 | 266 => 72 | n => n, fun | 9 => 9 | 4 => 4 | 3 => 3 | 5 => 5 | 117 => 71 | 116 => 70 | 0 => 0 | 124 => 74 | 21 => 21 | 105 => 93 | 46 => 56 | 119 => 120 | 139 => 123 | 138 => 122 | n => n, fun | 3 => 3 | 4 => 4 | n => n⟩
theorem trimLaid : Lays.n160 Tryd.prog trimLaid_ren := {
  mixed := by kernel_rfl
  f119 := by kernel_rfl
  f120 := by kernel_rfl
  f137 := by kernel_rfl
  f151 := by kernel_rfl
  f152 := by kernel_rfl
  f160 := by kernel_rfl
  f197 := by kernel_rfl
  f217 := by kernel_rfl
  f224 := by kernel_rfl
  f225 := by kernel_rfl
  f227 := by kernel_rfl
  f228 := by kernel_rfl
  f231 := by kernel_rfl
  f232 := by kernel_rfl
  f233 := by kernel_rfl
  f234 := by kernel_rfl
  f235 := by kernel_rfl
  f236 := by kernel_rfl
  f260 := by kernel_rfl
  f266 := by kernel_rfl
  f271 := by kernel_rfl
  t0 := Tryd.underlying0
  a0 := Tryd.isAgg0
  z0 := Tryd.sizeOf0
  v0 := Tryd.zeroValue0
  t3 := Tryd.underlying3
  a3 := Tryd.isAgg3
  z3 := Tryd.sizeOf3
  v3 := Tryd.zeroValue3
  t4 := Tryd.underlying4
  a4 := Tryd.isAgg4
  z4 := Tryd.sizeOf4
  v4 := Tryd.zeroValue4
  t5 := Tryd.underlying5
  a5 := Tryd.isAgg5
  z5 := Tryd.sizeOf5
  v5 := Tryd.zeroValue5
  t9 := Tryd.underlying9
  a9 := Tryd.isAgg9
  z9 := Tryd.sizeOf9
  v9 := Tryd.zeroValue9
  t21 := Tryd.underlying21
  a21 := Tryd.isAgg21
  z21 := Tryd.sizeOf21
  v21 := Tryd.zeroValue21
  t46 := Tryd.underlying56
  a46 := Tryd.isAgg56
  z46 := Tryd.sizeOf56
  v46 := Tryd.zeroValue56
  t105 := Tryd.underlying93
  a105 := Tryd.isAgg93
  z105 := Tryd.sizeOf93
  v105 := Tryd.zeroValue93
  t116 := Tryd.underlying70
  a116 := Tryd.isAgg70
  z116 := Tryd.sizeOf70
  t117 := Tryd.underlying71
  a117 := Tryd.isAgg71
  z117 := Tryd.sizeOf71
  v117 := Tryd.zeroValue71
  t119 := Tryd.underlying120
  a119 := Tryd.isAgg120
  z119 := Tryd.sizeOf120
  t124 := Tryd.underlying74
  a124 := Tryd.isAgg74
  z124 := Tryd.sizeOf74
  v124 := Tryd.zeroValue74
  t138 := Tryd.underlying122
  a138 := Tryd.isAgg122
  z138 := Tryd.sizeOf122
  v138 := Tryd.zeroValue122
  t139 := Tryd.underlying123
  a139 := Tryd.isAgg123
  z139 := Tryd.sizeOf123
  v139 := Tryd.zeroValue123
  g3 := by kernel_rfl
  g4 := by kernel_rfl
}

theorem tenL_ok : ([48, 49, 50, 51, 52, 53, 54, 55, 56, 57] : List UInt8).all (fun b => decide (b.toNat < 128)) = true := by decide
theorem info_set : (Tryd.prog.info? (trimLaid_ren.t 116)).map (fun i => (i.zero, i.size)) = some (some (.agg (Array.replicate 256 (.bool false))), 256) := by kernel_rfl
theorem ten_mem (c : UInt8) : ([48, 49, 50, 51, 52, 53, 54, 55, 56, 57] : List UInt8).contains c = decide (dv c < 10) := by
  rw [dv_ten, Bool.eq_iff_iff]
  simp only [List.contains_eq_mem, decide_eq_true_eq, Bool.and_eq_true, List.mem_cons, List.not_mem_nil, or_false]
  constructor
  · rintro (rfl | rfl | rfl | rfl | rfl | rfl | rfl | rfl | rfl | rfl) <;> decide
  · rintro ⟨h1, h2⟩
    have e : c = UInt8.ofNat c.toNat := by simp
    generalize c.toNat = n at h1 h2 e
    subst e
    have hn : n = 48 ∨ n = 49 ∨ n = 50 ∨ n = 51 ∨ n = 52 ∨ n = 53 ∨ n = 54 ∨ n = 55 ∨ n = 56 ∨ n = 57 := by omega
    rcases hn with rfl | rfl | rfl | rfl | rfl | rfl | rfl | rfl | rfl | rfl <;> simp
theorem dropWhile_nil {α : Type} {p : α → Bool} : ∀ {l : List α}, l.dropWhile p = [] ↔ l.all p = true
  | [] => by simp
  | a :: l => by
    rw [List.dropWhile_cons, List.all_cons]
    cases h : p a with
    | true => simp only [if_true, Bool.true_and]; exact dropWhile_nil
    | false => simp
theorem trim_ten (l : List UInt8) : Lib.trimS l [48, 49, 50, 51, 52, 53, 54, 55, 56, 57] = [] ↔ (val 10 l).isSome = true := by
  rw [val, vgo_some]
  have hc : (fun c : UInt8 => ([48, 49, 50, 51, 52, 53, 54, 55, 56, 57] : List UInt8).contains c) = fun c => decide (dv c < 10) := funext ten_mem
  unfold Lib.trimS Lib.trimLeftS Lib.trimRightS
  rw [hc]
  constructor
  · intro h
    rw [dropWhile_nil] at h
    by_cases he : (l.reverse.dropWhile fun c => decide (dv c < 10)) = []
    · rw [dropWhile_nil] at he
      simpa using he
    · exfalso
      have hh := List.head_dropWhile_not (fun c => decide (dv c < 10)) he
      rw [List.all_reverse] at h
      have := List.all_eq_true.1 h _ (List.head_mem he)
      rw [hh] at this
      cases this
  · intro h
    have : (l.reverse.dropWhile fun c => decide (dv c < 10)) = [] := by
      rw [dropWhile_nil]
      simpa using h
    rw [this]
    rfl
/-- it answers a text that is empty just if .. -/
def TrimR (q : Bool) (w : World) (e : Ending) (w' : World) : Prop := (∃ t : ByteArray, e = .returned (.string t) ∧ t.toList.isEmpty = q) ∧ Below w.heap.size w w'
theorem Trim_ten (s : ByteArray) (w : World) (hs : s.size ≤ 1000000) : Calls Tryd.prog 28 #[.string s, .string ⟨#[48, 49, 50, 51, 52, 53, 54, 55, 56, 57]⟩] w (TrimR (val 10 (dl s)).isSome w) :=
  (Any.strings_Trim_laid trimLaid info_set s ⟨#[48, 49, 50, 51, 52, 53, 54, 55, 56, 57]⟩ w (by omega) (by show 10 < 4294967281; omega) (ascii_of_all tenL_ok)).mono fun _ _ ⟨h1, h2⟩ => ⟨⟨_, h1, by
    rw [ByteArray.toList_eq, Bool.eq_iff_iff, ← trim_ten, List.isEmpty_iff]⟩, h2⟩
theorem LastIndexByte_dot (s : ByteArray) (w : World) (hs : s.size ≤ 1000000) : Calls Tryd.prog 27 #[.string s, .int .u8 46] w (LastDot s.data.toList w) := by
  go_enter Tryd.func27, Tryd.ntmps27
  go_wp2_with (first | (go_at_call 45; refine (LastIndexByteString_any _ _ _ hs (by decide) (by decide)).mono ?_; rintro e w' ⟨r, rfl, hr, rfl⟩) | fail)
  go_ret
  exact ⟨_, rfl, hr, rfl⟩

def NumU (l : List UInt8) (w : World) (e : Ending) (w' : World) : Prop := ∃ (m : Nat) (ok : Bool), e = .returned (.tuple #[.int .u64 (m : Int), .bool ok]) ∧ ok = (num l).isSome ∧ (ok = false → m = 0) ∧ m ≤ 4294967296 ∧ Below w.heap.size w w'
theorem Number_u (s : ByteArray) (w : World) (hs : s.size ≤ 1000000) : Calls Tryd.prog 9 #[.string s] w (NumU (dl s) w) := by
  refine (Number_any s w hs).mono fun e w' ⟨h1, h2⟩ => ?_
  cases hn : num (dl s) with
  | none => rw [hn] at h1; exact ⟨0, false, h1, by rw [hn]; rfl, fun _ => rfl, by decide, h2⟩
  | some m => rw [hn] at h1; exact ⟨m, true, h1, by rw [hn]; rfl, (fun h => by cases h), num_le hn, h2⟩
def ParU (l : List UInt8) (w : World) (e : Ending) (w' : World) : Prop := ∃ (p n : Int), e = .returned (.tuple #[.int .u32 p, .int .i64 n]) ∧ (n = 0 ∧ (ans l).isSome = true ∨ n = 30 ∧ ans l = none) ∧ Below w.heap.size w w'
theorem Parse_u (s : ByteArray) (w : World) (hs : s.size ≤ 1000000) : Calls Tryd.prog 11 #[.string s] w (ParU (dl s) w) := by
  refine (Parse_any s hs w).mono fun e w' ⟨h1, h2⟩ => ?_
  cases hn : ans (dl s) with
  | none => rw [hn] at h1; exact ⟨0, 30, h1, .inr ⟨rfl, hn⟩, h2⟩
  | some m => rw [hn] at h1; exact ⟨m, 0, h1, .inl ⟨rfl, by rw [hn]; rfl⟩, h2⟩

/-- does a part end so? -/
def endq (q : List UInt8) : Bool := !q.isEmpty && ((val 10 q).isSome || (num q).isSome)
theorem ends_lst (l : List UInt8) : ends l = endq (lst l) := rfl
theorem rpt_cons (l : List UInt8) : ∃ p r, rpt l = p :: r := by
  cases h : rpt l with
  | nil => exact absurd h (rpt_ne l)
  | cons p r => exact ⟨p, r, rfl⟩
theorem trm_behind (a : List UInt8) {l : List UInt8} (h : l ≠ []) : trm (a ++ 46 :: l) = a ++ 46 :: trm l := by
  unfold trm
  have e1 : (a ++ 46 :: l).getLast? = l.getLast? := by
    rw [List.getLast?_append]
    cases l with
    | nil => exact absurd rfl h
    | cons b t => rw [List.getLast?_cons_cons]; cases h2 : (b :: t).getLast? with
      | none => simp at h2
      | some x => rfl
  have e2 : (a ++ 46 :: l).dropLast = a ++ 46 :: l.dropLast := by
    rw [List.dropLast_append_of_ne_nil (by simp)]
    cases l with
    | nil => exact absurd rfl h
    | cons b t => rfl
  rw [e1, e2]
  split <;> rfl
theorem lst_behind (a : List UInt8) {l : List UInt8} (h : l ≠ []) : lst (a ++ 46 :: l) = lst l := by
  obtain ⟨p, r, hp⟩ := rpt_cons (trm l)
  have h1 : rpt (trm (a ++ 46 :: l)) = p :: (r ++ rpt a) := by
    rw [trm_behind a h, rpt, spl_app, List.reverse_append]
    show rpt (trm l) ++ rpt a = _
    rw [hp]
    rfl
  rw [lst_of h1, lst_of hp]
theorem lst_no (l : List UInt8) : (46 : UInt8) ∉ lst l := by
  have h1 : lst l ∈ rpt (trm l) := List.head_mem _
  exact spl_no (trm l) _ (List.mem_reverse.1 h1)
theorem lst_self {q : List UInt8} (h : (46 : UInt8) ∉ q) : lst q = q := by
  refine lst_of (r := []) ?_
  rw [trm_no (fun e => h (List.mem_of_getLast? e)), rpt_one h]
theorem lst_x : lst [120, 46] = [120] := by
  refine lst_of (r := []) ?_
  rw [show ([120, 46] : List UInt8) = [120] ++ [46] from rfl, trm_dot, rpt_one (by decide)]
theorem endq_x : endq [120] = false := by decide
theorem ans_ends {l : List UInt8} (h : (ans l).isSome = true) : ends l = true := by
  obtain ⟨p, r, hp⟩ := rpt_cons (trm l)
  cases hn : num p with
  | none =>
    rw [ans, prs, hp, pgo_none hn _ _ _ _ (List.mem_cons_self ..)] at h
    cases h
  | some n => exact ends_of hp hn
theorem last_lst {l : List UInt8} {p : List UInt8} (hp : p = trm l) {r : Int} (h : LastIs p 46 r) : (r = -1 ∧ p = lst l) ∨ ∃ a b, p = a ++ 46 :: b ∧ b = lst l ∧ r = (a.length : Int) := by
  subst hp
  rcases h with ⟨h1, h2⟩ | ⟨a, b, h1, h2, h3⟩
  · exact .inl ⟨h1, (lst_of (rpt_one h2)).symm⟩
  · exact .inr ⟨a, b, h1, (lst_of (by rw [h1, rpt_last h2])).symm, h3⟩
end Go.Proofs.YtpmdecdjlegcnaaDoor.Fou
