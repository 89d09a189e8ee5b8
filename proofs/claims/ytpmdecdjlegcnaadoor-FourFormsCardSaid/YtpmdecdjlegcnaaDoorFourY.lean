/-
  strings.Repeat, strings.ToUpper laid; what the law's own 'written' tells.
-/
import Derived.Test.YtpmdecdjlegcnaaDoorFourX
import Derived.Test.YtpmdecdjlegcnaaDoorFourM
import Derived.Shelf.Strings.Repeat
namespace Go.Proofs.YtpmdecdjlegcnaaDoor.Fou
open Go.RowKit Go.Shelf Go.Sort

def repLaid_ren : Ren := ⟨fun | 105 => 37 | 212 => 60 | 99 => 61 | 165 => 39 | 166 => 40 | 170 => 62 | 169 => 41 | 263 => 83 | 264 => 84 | 206 => 85 | 240 => 66 | 241 => 67 | 276 => 90 | 277 => 91 | n => n, fun | 9 => 9 | 3 => 3 | 4 => 4 | 20 => 20 | 0 => 0 | 46 => 56 | 109 => 80 | 5 => 5 | 72 => 61 | 76 => 65 | 51 => 22 | 146 => 97 | 53 => 24 | 148 => 99 | 70 => 59 | 37 => 44 | 75 => 64 | 127 => 86 | 164 => 104 | 80 => 67 | n => n, fun n => n⟩
theorem repLaid : Lays.n105 Tryd.prog repLaid_ren := {
  mixed := by kernel_rfl
  f99 := by kernel_rfl
  f105 := by kernel_rfl
  f165 := by kernel_rfl
  f166 := by kernel_rfl
  f169 := by kernel_rfl
  f170 := by kernel_rfl
  f206 := by kernel_rfl
  f212 := by kernel_rfl
  f240 := by kernel_rfl
  f241 := by kernel_rfl
  f263 := by kernel_rfl
  f264 := by kernel_rfl
  f276 := by kernel_rfl
  f277 := by kernel_rfl
  t0 := Tryd.underlying0
  a0 := Tryd.isAgg0
  z0 := Tryd.sizeOf0
  v0 := Tryd.zeroValue0
  t3 := Tryd.underlying3
  a3 := Tryd.isAgg3
  z3 := Tryd.sizeOf3
  v3 := Tryd.zeroValue3
  t4 := Tryd.underlying4
  a4 := Tryd.isAgg4
  z4 := Tryd.sizeOf4
  v4 := Tryd.zeroValue4
  t5 := Tryd.underlying5
  a5 := Tryd.isAgg5
  z5 := Tryd.sizeOf5
  v5 := Tryd.zeroValue5
  t9 := Tryd.underlying9
  a9 := Tryd.isAgg9
  z9 := Tryd.sizeOf9
  v9 := Tryd.zeroValue9
  t20 := Tryd.underlying20
  a20 := Tryd.isAgg20
  z20 := Tryd.sizeOf20
  v20 := Tryd.zeroValue20
  t37 := Tryd.underlying44
  a37 := Tryd.isAgg44
  z37 := Tryd.sizeOf44
  v37 := Tryd.zeroValue44
  t46 := Tryd.underlying56
  a46 := Tryd.isAgg56
  z46 := Tryd.sizeOf56
  v46 := Tryd.zeroValue56
  t51 := Tryd.underlying22
  a51 := Tryd.isAgg22
  z51 := Tryd.sizeOf22
  v51 := Tryd.zeroValue22
  t53 := Tryd.underlying24
  a53 := Tryd.isAgg24
  z53 := Tryd.sizeOf24
  v53 := Tryd.zeroValue24
  t70 := Tryd.underlying59
  a70 := Tryd.isAgg59
  z70 := Tryd.sizeOf59
  v70 := Tryd.zeroValue59
  t72 := Tryd.underlying61
  a72 := Tryd.isAgg61
  z72 := Tryd.sizeOf61
  v72 := Tryd.zeroValue61
  t75 := Tryd.underlying64
  a75 := Tryd.isAgg64
  z75 := Tryd.sizeOf64
  v75 := Tryd.zeroValue64
  t76 := Tryd.underlying65
  a76 := Tryd.isAgg65
  z76 := Tryd.sizeOf65
  v76 := Tryd.zeroValue65
  t109 := Tryd.underlying80
  a109 := Tryd.isAgg80
  z109 := Tryd.sizeOf80
  v109 := Tryd.zeroValue80
  t127 := Tryd.underlying86
  a127 := Tryd.isAgg86
  z127 := Tryd.sizeOf86
  v127 := Tryd.zeroValue86
  t146 := Tryd.underlying97
  a146 := Tryd.isAgg97
  z146 := Tryd.sizeOf97
  v146 := Tryd.zeroValue97
  t148 := Tryd.underlying99
  a148 := Tryd.isAgg99
  z148 := Tryd.sizeOf99
  v148 := Tryd.zeroValue99
  t164 := Tryd.underlying104
  a164 := Tryd.isAgg104
  z164 := Tryd.sizeOf104
  v164 := Tryd.zeroValue104
}
theorem repExtra : Builder.Extra Tryd.prog repLaid_ren where
  sizeBuilder := by kernel_rfl
  liesBuilder := by kernel_rfl
  t5 := Tryd.underlying5
  a5 := Tryd.isAgg5
  z5 := Tryd.sizeOf5
  v5 := Tryd.zeroValue5
  infoByte := by kernel_rfl
  cellsByte := by kernel_rfl
  sizeByte := by kernel_rfl
  neB5 := by decide
def upLaid_ren : Ren := ⟨fun | 158 => 38 | 165 => 39 | 166 => 40 | 167 => 63 | 169 => 41 | 230 => 64 | 203 => 65 | 240 => 66 | 241 => 67 | 197 => 75 | 118 => 86 | 168 => 87 | 270 => 88 | 262 => 89 | 276 => 90 | 277 => 91 | 260 => 97 | 242 => 104 | 313 => 105 | 278 => 110 | 274 => 111 | 275 => 112 | n => n, fun | 9 => 9 | 4 => 4 | 3 => 3 | 5 => 5 | 72 => 61 | 0 => 0 | 76 => 65 | 75 => 64 | 107 => 85 | 70 => 59 | 20 => 20 | 37 => 44 | 127 => 86 | 21 => 21 | 105 => 93 | 164 => 104 | 162 => 118 | 203 => 116 | 119 => 120 | 46 => 56 | 139 => 123 | 138 => 122 | 51 => 22 | 160 => 125 | 208 => 133 | 206 => 131 | 80 => 67 | n => n, fun | 13 => 2 | 3 => 3 | 4 => 4 | n => n⟩
theorem upLaid : Lays.n158 Tryd.prog upLaid_ren := {
  mixed := by kernel_rfl
  f118 := by kernel_rfl
  f158 := by kernel_rfl
  f165 := by kernel_rfl
  f166 := by kernel_rfl
  f167 := by kernel_rfl
  f168 := by kernel_rfl
  f169 := by kernel_rfl
  f197 := by kernel_rfl
  f203 := by kernel_rfl
  f230 := by kernel_rfl
  f240 := by kernel_rfl
  f241 := by kernel_rfl
  f242 := by kernel_rfl
  f260 := by kernel_rfl
  f262 := by kernel_rfl
  f270 := by kernel_rfl
  f274 := by kernel_rfl
  f275 := by kernel_rfl
  f276 := by kernel_rfl
  f277 := by kernel_rfl
  f278 := by kernel_rfl
  f313 := by kernel_rfl
  t0 := Tryd.underlying0
  a0 := Tryd.isAgg0
  z0 := Tryd.sizeOf0
  v0 := Tryd.zeroValue0
  t3 := Tryd.underlying3
  a3 := Tryd.isAgg3
  z3 := Tryd.sizeOf3
  v3 := Tryd.zeroValue3
  t4 := Tryd.underlying4
  a4 := Tryd.isAgg4
  z4 := Tryd.sizeOf4
  v4 := Tryd.zeroValue4
  t5 := Tryd.underlying5
  a5 := Tryd.isAgg5
  z5 := Tryd.sizeOf5
  v5 := Tryd.zeroValue5
  t9 := Tryd.underlying9
  a9 := Tryd.isAgg9
  z9 := Tryd.sizeOf9
  v9 := Tryd.zeroValue9
  t20 := Tryd.underlying20
  a20 := Tryd.isAgg20
  z20 := Tryd.sizeOf20
  v20 := Tryd.zeroValue20
  t21 := Tryd.underlying21
  a21 := Tryd.isAgg21
  z21 := Tryd.sizeOf21
  v21 := Tryd.zeroValue21
  t37 := Tryd.underlying44
  a37 := Tryd.isAgg44
  z37 := Tryd.sizeOf44
  v37 := Tryd.zeroValue44
  t46 := Tryd.underlying56
  a46 := Tryd.isAgg56
  z46 := Tryd.sizeOf56
  v46 := Tryd.zeroValue56
  t51 := Tryd.underlying22
  a51 := Tryd.isAgg22
  z51 := Tryd.sizeOf22
  v51 := Tryd.zeroValue22
  t70 := Tryd.underlying59
  a70 := Tryd.isAgg59
  z70 := Tryd.sizeOf59
  v70 := Tryd.zeroValue59
  t72 := Tryd.underlying61
  a72 := Tryd.isAgg61
  z72 := Tryd.sizeOf61
  v72 := Tryd.zeroValue61
  t75 := Tryd.underlying64
  a75 := Tryd.isAgg64
  z75 := Tryd.sizeOf64
  v75 := Tryd.zeroValue64
  t76 := Tryd.underlying65
  a76 := Tryd.isAgg65
  z76 := Tryd.sizeOf65
  v76 := Tryd.zeroValue65
  t105 := Tryd.underlying93
  a105 := Tryd.isAgg93
  z105 := Tryd.sizeOf93
  v105 := Tryd.zeroValue93
  t107 := Tryd.underlying85
  a107 := Tryd.isAgg85
  z107 := Tryd.sizeOf85
  v107 := Tryd.zeroValue85
  t119 := Tryd.underlying120
  a119 := Tryd.isAgg120
  z119 := Tryd.sizeOf120
  t127 := Tryd.underlying86
  a127 := Tryd.isAgg86
  z127 := Tryd.sizeOf86
  v127 := Tryd.zeroValue86
  t138 := Tryd.underlying122
  a138 := Tryd.isAgg122
  z138 := Tryd.sizeOf122
  v138 := Tryd.zeroValue122
  t139 := Tryd.underlying123
  a139 := Tryd.isAgg123
  z139 := Tryd.sizeOf123
  v139 := Tryd.zeroValue123
  t160 := Tryd.underlying125
  a160 := Tryd.isAgg125
  z160 := Tryd.sizeOf125
  v160 := Tryd.zeroValue125
  t162 := Tryd.underlying118
  a162 := Tryd.isAgg118
  z162 := Tryd.sizeOf118
  v162 := Tryd.zeroValue118
  t164 := Tryd.underlying104
  a164 := Tryd.isAgg104
  z164 := Tryd.sizeOf104
  v164 := Tryd.zeroValue104
  t203 := Tryd.underlying116
  a203 := Tryd.isAgg116
  z203 := Tryd.sizeOf116
  v203 := Tryd.zeroValue116
  t206 := Tryd.underlying131
  a206 := Tryd.isAgg131
  z206 := Tryd.sizeOf131
  v206 := Tryd.zeroValue131
  t208 := Tryd.underlying133
  a208 := Tryd.isAgg133
  z208 := Tryd.sizeOf133
  v208 := Tryd.zeroValue133
  g3 := by kernel_rfl
  g4 := by kernel_rfl
  g13 := by kernel_rfl
}
theorem upExtra : Builder.Extra Tryd.prog upLaid_ren where
  sizeBuilder := by kernel_rfl
  liesBuilder := by kernel_rfl
  t5 := Tryd.underlying5
  a5 := Tryd.isAgg5
  z5 := Tryd.sizeOf5
  v5 := Tryd.zeroValue5
  infoByte := by kernel_rfl
  cellsByte := by kernel_rfl
  sizeByte := by kernel_rfl
  neB5 := by decide

theorem rep_nought : ∀ k, Lib.repeatL [48] k = List.replicate k (48 : UInt8)
  | 0 => rfl
  | k + 1 => by rw [Lib.repeatL, rep_nought k]; rfl
theorem Repeat_any (k : Nat) (hk : k < 4) (w : World) : Calls Tryd.prog 37 #[.string ⟨#[48]⟩, .int .i64 (k : Int)] w (Texts (List.replicate k 48) w) :=
  (Any.strings_Repeat repLaid repExtra ⟨#[48]⟩ k w (by omega) (by rw [show (⟨#[48]⟩ : ByteArray).size = 1 from rfl]; omega)).mono fun _ _ ⟨h1, h2⟩ => ⟨by rw [h1, show (⟨#[48]⟩ : ByteArray).data.toList = [48] from rfl, rep_nought]; rfl, h2⟩
theorem digs_ascii {b : Nat} (hb : 2 ≤ b) (hb16 : b ≤ 16) (n : Nat) : ∀ c ∈ digs b n, c.toNat < 128 := by
  have h16 : ∀ d : Fin 16, (dgB d.1).toNat < 128 := by decide
  intro c hc
  obtain ⟨d, hd, rfl⟩ := digs_mem hb n c hc
  exact h16 ⟨d, by omega⟩
theorem ToUpper_any (n : Nat) (hn : n < 10000000000) (w : World) : Calls Tryd.prog 38 #[.string (bs (digs 16 n))] w (Texts (Lib.toUpperA (digs 16 n)) w) :=
  (Any.strings_ToUpper_ascii upLaid upExtra (bs (digs 16 n)) w (by
    rw [Lib.size_eq, bs_data]
    have := digs_len (b := 16) (by decide) 9 n (Nat.lt_of_lt_of_le hn (by decide))
    omega) (by
    intro j c hc
    rw [bs_data] at hc
    exact digs_ascii (by decide) (by decide) n c (List.mem_of_getElem? hc))).mono fun _ _ ⟨h1, h2⟩ => ⟨by rw [h1, bs_data]; rfl, h2⟩
/-- a number, written in one of the ways -/
def wrt (h n : Nat) : List UInt8 := if h % 3 = 0 then digs 10 n else if h % 3 = 1 then 48 :: (List.replicate (h / 3 % 4) 48 ++ digs 8 n) else 48 :: 120 :: (List.replicate (h / 3 % 4) 48 ++ Lib.toUpperA (digs 16 n))
theorem wrt_num (h n : Nat) : num (wrt h n) = some (cap n) := by
  unfold wrt
  split
  · exact digs_num n
  · split
    · exact oct_num _ n
    · exact hex_num _ n
theorem rem_of (h : Nat) : (h : Int) % 3 = ((h % 3 : Nat) : Int) := by omega
set_option maxRecDepth 100000 in
set_option maxHeartbeats 4000000 in
theorem written_any (n h : Nat) (hn : n < 10000000000) (hh : h < 256) (w : World) (hp : PowIs w) (hB : BruIs w) : Calls Tryd.prog 21 #[.int .u64 (n : Int), .int .u8 (h : Int)] w (Texts (wrt h n) w) := by
  obtain ⟨q, hq⟩ : ∃ q, h / 3 % 4 = q := ⟨_, rfl⟩
  have hq4 : q < 4 := by omega
  have hqi : (h : Int) / 3 % 4 = (q : Int) := by omega
  have hqi0 : (0 : Int) ≤ (q : Int) ∧ (q : Int) < 4 := by omega
  obtain ⟨r, hr⟩ : ∃ r, h % 3 = r := ⟨_, rfl⟩
  have hri : (h : Int) % 3 = (r : Int) := by omega
  have hr3 : r = 0 ∨ r = 1 ∨ r = 2 := by omega
  have hh0 : (0 : Int) ≤ (h : Int) ∧ (h : Int) < 256 := by omega
  obtain ⟨A, hA⟩ : ∃ A, bs (List.replicate q 48) = A := ⟨_, rfl⟩
  have hAd : dl A = List.replicate q 48 := by rw [← hA]; exact bs_data _
  have hAs : A.size ≤ 3 := by
    rw [Lib.size_eq]
    show (dl A).length ≤ 3
    rw [hAd, List.length_replicate]
    omega
  have HR := Lib.hid (Repeat_any q hq4)
  unfold Texts at HR
  rw [hA] at HR
  have HAd := Lib.hid hAd
  have HW : Hid (wrt h n = if r = 0 then digs 10 n else if r = 1 then 48 :: (List.replicate q 48 ++ digs 8 n) else 48 :: 120 :: (List.replicate q 48 ++ Lib.toUpperA (digs 16 n))) := Lib.hid (by rw [← hr, ← hq]; rfl)
  have HN := Lib.hid hn
  have HP := Lib.hid (fun w' (b : Below w.heap.size w w') => hp.go b)
  have HB := Lib.hid (fun w' (b : Below w.heap.size w w') => hB.go (Nat.le_refl _) b)
  clear hA hAd hq hr hn hp hB
  rcases hr3 with rfl | rfl | rfl
  · go_enter Tryd.func21, Tryd.ntmps21
    go_wp2_with fail
    refine (HR.out _).mono ?_
    rintro e w1 ⟨rfl, hb1⟩
    go_wp2_with fail
    refine (FormatUint10_any n (by have := HN.out; omega) _ (HP.out _ hb1)).mono ?_
    rintro e w2 ⟨rfl, hb2⟩
    go_wp2_with fail
    go_ret
    exact ⟨by rw [HW.out]; rfl, upB' hb1 hb2⟩
  · go_enter Tryd.func21, Tryd.ntmps21
    go_wp2_with fail
    refine (HR.out _).mono ?_
    rintro e w1 ⟨rfl, hb1⟩
    go_wp2_with fail
    obtain ⟨D, hD⟩ : ∃ D, bs (digs 8 n) = D := ⟨_, rfl⟩
    have hDd : dl D = digs 8 n := by rw [← hD]; exact bs_data _
    have hDs : D.size ≤ 12 := by
      rw [Lib.size_eq]
      show (dl D).length ≤ 12
      rw [hDd]
      have := digs_len (b := 8) (by decide) 11 n (Nat.lt_of_lt_of_le HN.out (by decide))
      omega
    have HF := Lib.hid (FormatUint_any 8 3 n (.inl ⟨rfl, rfl⟩) (by have := HN.out; omega) w1 (HB.out _ hb1))
    unfold Texts at HF
    rw [hD] at HF
    have HDd := Lib.hid hDd
    clear hD hDd
    refine HF.out.mono ?_
    rintro e w2 ⟨rfl, hb2⟩
    go_wp2_with fail
    go_ret
    refine ⟨?_, upB' hb1 hb2⟩
    rw [HW.out]
    exact congrArg (fun v => Ending.returned (.string v)) (bs_eq (show dl _ = _ by rw [app_dl, app_dl, HAd.out, HDd.out]; rfl))
  · go_enter Tryd.func21, Tryd.ntmps21
    go_wp2_with fail
    refine (HR.out _).mono ?_
    rintro e w1 ⟨rfl, hb1⟩
    go_wp2_with fail
    refine (FormatUint_any 16 4 n (.inr ⟨rfl, rfl⟩) (by have := HN.out; omega) _ (HB.out _ hb1)).mono ?_
    rintro e w2 ⟨rfl, hb2⟩
    go_wp2_with fail
    obtain ⟨D, hD⟩ : ∃ D, bs (Lib.toUpperA (digs 16 n)) = D := ⟨_, rfl⟩
    have hDd : dl D = Lib.toUpperA (digs 16 n) := by rw [← hD]; exact bs_data _
    have hDs : D.size ≤ 12 := by
      rw [Lib.size_eq]
      show (dl D).length ≤ 12
      rw [hDd, Lib.toUpperA, List.length_map]
      have := digs_len (b := 16) (by decide) 11 n (Nat.lt_of_lt_of_le HN.out (by decide))
      omega
    have HF := Lib.hid (ToUpper_any n HN.out w2)
    unfold Texts at HF
    rw [hD] at HF
    have HDd := Lib.hid hDd
    clear hD hDd
    refine HF.out.mono ?_
    rintro e w3 ⟨rfl, hb3⟩
    go_wp2_with fail
    go_ret
    refine ⟨?_, upB' (upB' hb1 hb2) hb3⟩
    rw [HW.out]
    exact congrArg (fun v => Ending.returned (.string v)) (bs_eq (show dl _ = _ by rw [app_dl, app_dl, HAd.out, HDd.out]; rfl))
end Go.Proofs.YtpmdecdjlegcnaaDoor.Fou
