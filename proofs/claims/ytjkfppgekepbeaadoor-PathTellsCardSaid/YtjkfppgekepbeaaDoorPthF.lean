/-
  strings.ToLower laid; path: Single, Double.
-/
import Derived.Test.YtjkfppgekepbeaaDoorPthE
import Derived.Shelf.Strings.CaseAny
namespace Go.Proofs.YtjkfppgekepbeaaDoor.Pth
set_option maxRecDepth 100000
open Go.RowKit Go.Shelf Utf Ut Hst

def lowLaid_ren : Ren := ⟨fun | 159 => 27 | 165 => 46 | 166 => 47 | 167 => 48 | 169 => 49 | 230 => 50 | 204 => 51 | 240 => 65 | 241 => 66 | 197 => 64 | 118 => 67 | 168 => 68 | 270 => 69 | 262 => 70 | 276 => 84 | 277 => 85 | 260 => 83 | 242 => 86 | 313 => 87 | 278 => 91 | 274 => 92 | 275 => 93 | n => n, fun | 9 => 9 | 4 => 4 | 3 => 3 | 5 => 5 | 72 => 61 | 0 => 0 | 76 => 65 | 75 => 64 | 107 => 70 | 70 => 59 | 20 => 20 | 37 => 40 | 127 => 78 | 21 => 21 | 105 => 76 | 164 => 91 | 162 => 96 | 203 => 94 | 119 => 100 | 46 => 74 | 139 => 103 | 138 => 102 | 51 => 97 | 160 => 104 | 208 => 111 | 206 => 109 | 80 => 68 | n => n, fun | 13 => 1 | 3 => 2 | 4 => 3 | n => n⟩
theorem lowLaid : Lays.n159 Tryd.prog lowLaid_ren := {
  mixed := by kernel_rfl
  f118 := by kernel_rfl
  f159 := by kernel_rfl
  f165 := by kernel_rfl
  f166 := by kernel_rfl
  f167 := by kernel_rfl
  f168 := by kernel_rfl
  f169 := by kernel_rfl
  f197 := by kernel_rfl
  f204 := by kernel_rfl
  f230 := by kernel_rfl
  f240 := by kernel_rfl
  f241 := by kernel_rfl
  f242 := by kernel_rfl
  f260 := by kernel_rfl
  f262 := by kernel_rfl
  f270 := by kernel_rfl
  f274 := by kernel_rfl
  f275 := by kernel_rfl
  f276 := by kernel_rfl
  f277 := by kernel_rfl
  f278 := by kernel_rfl
  f313 := by kernel_rfl
  t0 := Tryd.underlying0
  a0 := Tryd.isAgg0
  z0 := Tryd.sizeOf0
  v0 := Tryd.zeroValue0
  t3 := Tryd.underlying3
  a3 := Tryd.isAgg3
  z3 := Tryd.sizeOf3
  v3 := Tryd.zeroValue3
  t4 := Tryd.underlying4
  a4 := Tryd.isAgg4
  z4 := Tryd.sizeOf4
  v4 := Tryd.zeroValue4
  t5 := Tryd.underlying5
  a5 := Tryd.isAgg5
  z5 := Tryd.sizeOf5
  v5 := Tryd.zeroValue5
  t9 := Tryd.underlying9
  a9 := Tryd.isAgg9
  z9 := Tryd.sizeOf9
  v9 := Tryd.zeroValue9
  t20 := Tryd.underlying20
  a20 := Tryd.isAgg20
  z20 := Tryd.sizeOf20
  v20 := Tryd.zeroValue20
  t21 := Tryd.underlying21
  a21 := Tryd.isAgg21
  z21 := Tryd.sizeOf21
  v21 := Tryd.zeroValue21
  t37 := Tryd.underlying40
  a37 := Tryd.isAgg40
  z37 := Tryd.sizeOf40
  v37 := Tryd.zeroValue40
  t46 := Tryd.underlying74
  a46 := Tryd.isAgg74
  z46 := Tryd.sizeOf74
  v46 := Tryd.zeroValue74
  t51 := Tryd.underlying97
  a51 := Tryd.isAgg97
  z51 := Tryd.sizeOf97
  v51 := Tryd.zeroValue97
  t70 := Tryd.underlying59
  a70 := Tryd.isAgg59
  z70 := Tryd.sizeOf59
  v70 := Tryd.zeroValue59
  t72 := Tryd.underlying61
  a72 := Tryd.isAgg61
  z72 := Tryd.sizeOf61
  v72 := Tryd.zeroValue61
  t75 := Tryd.underlying64
  a75 := Tryd.isAgg64
  z75 := Tryd.sizeOf64
  v75 := Tryd.zeroValue64
  t76 := Tryd.underlying65
  a76 := Tryd.isAgg65
  z76 := Tryd.sizeOf65
  v76 := Tryd.zeroValue65
  t105 := Tryd.underlying76
  a105 := Tryd.isAgg76
  z105 := Tryd.sizeOf76
  v105 := Tryd.zeroValue76
  t107 := Tryd.underlying70
  a107 := Tryd.isAgg70
  z107 := Tryd.sizeOf70
  v107 := Tryd.zeroValue70
  t119 := Tryd.underlying100
  a119 := Tryd.isAgg100
  z119 := Tryd.sizeOf100
  t127 := Tryd.underlying78
  a127 := Tryd.isAgg78
  z127 := Tryd.sizeOf78
  v127 := Tryd.zeroValue78
  t138 := Tryd.underlying102
  a138 := Tryd.isAgg102
  z138 := Tryd.sizeOf102
  v138 := Tryd.zeroValue102
  t139 := Tryd.underlying103
  a139 := Tryd.isAgg103
  z139 := Tryd.sizeOf103
  v139 := Tryd.zeroValue103
  t160 := Tryd.underlying104
  a160 := Tryd.isAgg104
  z160 := Tryd.sizeOf104
  v160 := Tryd.zeroValue104
  t162 := Tryd.underlying96
  a162 := Tryd.isAgg96
  z162 := Tryd.sizeOf96
  v162 := Tryd.zeroValue96
  t164 := Tryd.underlying91
  a164 := Tryd.isAgg91
  z164 := Tryd.sizeOf91
  v164 := Tryd.zeroValue91
  t203 := Tryd.underlying94
  a203 := Tryd.isAgg94
  z203 := Tryd.sizeOf94
  v203 := Tryd.zeroValue94
  t206 := Tryd.underlying109
  a206 := Tryd.isAgg109
  z206 := Tryd.sizeOf109
  v206 := Tryd.zeroValue109
  t208 := Tryd.underlying111
  a208 := Tryd.isAgg111
  z208 := Tryd.sizeOf111
  v208 := Tryd.zeroValue111
  g3 := by kernel_rfl
  g4 := by kernel_rfl
  g13 := by kernel_rfl
}

theorem lowExtra : Builder.Extra Tryd.prog lowLaid_ren where
  sizeBuilder := by kernel_rfl
  liesBuilder := by kernel_rfl
  t5 := Tryd.underlying5
  a5 := Tryd.isAgg5
  z5 := Tryd.sizeOf5
  v5 := Tryd.zeroValue5
  infoByte := by kernel_rfl
  cellsByte := by kernel_rfl
  sizeByte := by kernel_rfl
  neB5 := by decide
/-- a text is told, in small letters, as D, from w on -/
def LowIs (s : ByteArray) (D : List UInt8) (w : World) : Prop := ∀ W, Below w.heap.size w W → Calls Tryd.prog 27 #[.string s] W (fun e w' => e = .returned (.string ⟨D.toArray⟩) ∧ Below W.heap.size W w')
theorem LowIs.go {s : ByteArray} {D : List UInt8} {w w1 : World} (h : LowIs s D w) (hB : Below w.heap.size w w1) : LowIs s D w1 := fun W hW => h W (upB hB hW)
theorem low_asc {s : ByteArray} (hs : s.size ≤ 1000000) (ha : ∀ b ∈ dl s, b.toNat < 128) (w : World) : LowIs s (Lib.toLowerA (dl s)) w := fun W _ =>
  Any.strings_ToLower_ascii lowLaid lowExtra s W (by omega) (fun j b hb => ha b (List.mem_of_getElem? hb))
/-- the variables that strings.ToLower reads, as the program's text lays them -/
def CaseEnv (w : World) : Prop := Lib.CaseVar 1 Lib.caseA w ∧ Lib.Utf8Tabs 2 3 w
theorem low_all {s : ByteArray} (hs : s.size ≤ 1000000) {w : World} (hE : ∀ W, Below w.heap.size w W → CaseEnv W) : LowIs s (Lib.toLowerD (dl s)) w := fun W hW =>
  Any.strings_ToLower_any lowLaid lowExtra s W (by omega) (hE W hW).1 (hE W hW).2
/-- is that one dot, or two, in small letters -/
def oneL (D : List UInt8) : Bool := decide (D = [46]) || decide (D = [37, 50, 101])
def twoL (D : List UInt8) : Bool := decide (D = [46, 46]) || decide (D = [46, 37, 50, 101]) || decide (D = [37, 50, 101, 46]) || decide (D = [37, 50, 101, 37, 50, 101])
theorem sglL_one (l : List UInt8) : sglL l = oneL (Lib.toLowerA l) := rfl
theorem dblL_two (l : List UInt8) : dblL l = twoL (Lib.toLowerA l) := rfl
theorem arr_beq (D t : List UInt8) : ((⟨D.toArray⟩ : ByteArray).toList == t) = decide (D = t) := by
  rw [ByteArray.toList_eq]
  show (D == t) = _
  rw [Bool.eq_iff_iff]
  simp
set_option maxHeartbeats 1000000 in
theorem Single_low {s : ByteArray} {D : List UInt8} {w : World} (h : LowIs s D w) : Calls Tryd.prog 10 #[.string s] w (Says (oneL D) w) := by
  have HL := Lib.hid (h w (Below.refl _ _))
  have h1 := arr_beq D [46]
  have h2 := arr_beq D [37, 50, 101]
  have HO : Hid (oneL D = (decide (D = [46]) || decide (D = [37, 50, 101]))) := Lib.hid rfl
  rw [HO.out]
  obtain ⟨d, hd⟩ : ∃ d, (⟨D.toArray⟩ : ByteArray) = d := ⟨_, rfl⟩
  rw [hd] at HL h1 h2
  obtain ⟨p, hp⟩ : ∃ p, decide (D = [46]) = p := ⟨_, rfl⟩
  obtain ⟨q, hq⟩ : ∃ q, decide (D = [37, 50, 101]) = q := ⟨_, rfl⟩
  rw [hp] at h1
  rw [hq] at h2
  rw [hp, hq]
  clear h hd hp hq HO
  cases p <;> cases q
  all_goals
    go_enter Tryd.func10, Tryd.ntmps10
    go_wp2_with (first | (go_at_call 27; refine HL.out.mono ?_; rintro e w1 ⟨rfl, hB⟩) | fail)
    go_ret
    exact ⟨rfl, hB⟩
set_option maxHeartbeats 2000000 in
theorem Double_low {s : ByteArray} {D : List UInt8} {w : World} (h : LowIs s D w) : Calls Tryd.prog 12 #[.string s] w (Says (twoL D) w) := by
  have HL := Lib.hid (h w (Below.refl _ _))
  have h1 := arr_beq D [46, 46]
  have h2 := arr_beq D [46, 37, 50, 101]
  have h3 := arr_beq D [37, 50, 101, 46]
  have h4 := arr_beq D [37, 50, 101, 37, 50, 101]
  have HO : Hid (twoL D = (decide (D = [46, 46]) || decide (D = [46, 37, 50, 101]) || decide (D = [37, 50, 101, 46]) || decide (D = [37, 50, 101, 37, 50, 101]))) := Lib.hid rfl
  rw [HO.out]
  obtain ⟨d, hd⟩ : ∃ d, (⟨D.toArray⟩ : ByteArray) = d := ⟨_, rfl⟩
  rw [hd] at HL h1 h2 h3 h4
  obtain ⟨p, hp⟩ : ∃ p, decide (D = [46, 46]) = p := ⟨_, rfl⟩
  obtain ⟨q, hq⟩ : ∃ q, decide (D = [46, 37, 50, 101]) = q := ⟨_, rfl⟩
  obtain ⟨r, hr⟩ : ∃ q, decide (D = [37, 50, 101, 46]) = q := ⟨_, rfl⟩
  obtain ⟨t, ht⟩ : ∃ q, decide (D = [37, 50, 101, 37, 50, 101]) = q := ⟨_, rfl⟩
  rw [hp] at h1
  rw [hq] at h2
  rw [hr] at h3
  rw [ht] at h4
  rw [hp, hq, hr, ht]
  clear h hd hp hq hr ht HO
  have hcs : p = true ∨ (p = false ∧ q = true) ∨ (p = false ∧ q = false ∧ r = true) ∨ (p = false ∧ q = false ∧ r = false ∧ t = true) ∨ (p = false ∧ q = false ∧ r = false ∧ t = false) := by cases p <;> cases q <;> cases r <;> cases t <;> simp
  rcases hcs with rfl | ⟨rfl, rfl⟩ | ⟨rfl, rfl, rfl⟩ | ⟨rfl, rfl, rfl, rfl⟩ | ⟨rfl, rfl, rfl, rfl⟩
  all_goals
    go_enter Tryd.func12, Tryd.ntmps12
    go_wp2_with (first | (go_at_call 27; refine HL.out.mono ?_; rintro e w1 ⟨rfl, hB⟩) | fail)
    go_ret
    exact ⟨rfl, hB⟩
theorem Single_asc {s : ByteArray} (hs : s.size ≤ 1000000) (ha : ∀ b ∈ dl s, b.toNat < 128) (w : World) : Calls Tryd.prog 10 #[.string s] w (Says (sgl s) w) := Single_low (low_asc hs ha w)
theorem Double_asc {s : ByteArray} (hs : s.size ≤ 1000000) (ha : ∀ b ∈ dl s, b.toNat < 128) (w : World) : Calls Tryd.prog 12 #[.string s] w (Says (dbl s) w) := Double_low (low_asc hs ha w)
end Go.Proofs.YtjkfppgekepbeaaDoor.Pth
