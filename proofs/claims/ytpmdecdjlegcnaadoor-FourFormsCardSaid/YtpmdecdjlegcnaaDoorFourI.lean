/-
  fascialaw12: says, none, awake.
-/
import Derived.Test.YtpmdecdjlegcnaaDoorFourG
import Derived.Test.YtpmdecdjlegcnaaDoorFourH
namespace Go.Proofs.YtpmdecdjlegcnaaDoor.Fou
open Go.RowKit Go.Shelf

set_option maxRecDepth 100000 in
set_option maxHeartbeats 1000000 in
theorem says_any (s : ByteArray) (want : Nat) (hs : s.size ≤ 1000000) (w : World) : Calls Tryd.prog 18 #[.string s, .int .u32 (want : Int)] w (Says (decide (ans (dl s) = some want)) w) := by
  have HP := Lib.hid (Parse_any s hs)
  obtain ⟨o, ho⟩ : ∃ o, ans (dl s) = o := ⟨_, rfl⟩
  rw [ho] at HP ⊢
  clear ho hs
  cases o with
  | none =>
    have HQ : Hid (decide ((none : Option Nat) = some want) = false) := Lib.hid (by simp)
    go_enter Tryd.func18, Tryd.ntmps18
    go_wp2_with fail
    refine (HP.out _).mono ?_
    rintro e w1 ⟨rfl, hB⟩
    go_wp2_with fail
    go_ret
    exact says_mk HQ.out hB
  | some x =>
    have HQ : Hid (decide ((some x : Option Nat) = some want) = ((x : Int) == (want : Int))) := Lib.hid (by
      by_cases h : x = want
      · subst h; simp
      · rw [decide_eq_false (fun e => h (Option.some.inj e))]
        symm
        exact beq_eq_false_iff_ne.2 (by omega))
    go_enter Tryd.func18, Tryd.ntmps18
    go_wp2_with fail
    refine (HP.out _).mono ?_
    rintro e w1 ⟨rfl, hB⟩
    go_wp2_with fail
    go_ret
    exact says_mk HQ.out hB
theorem says_yes (s : ByteArray) (want : Nat) (hs : s.size ≤ 1000000) (w : World) (h : ans (dl s) = some want) : Calls Tryd.prog 18 #[.string s, .int .u32 (want : Int)] w (Says true w) := by
  have := says_any s want hs w
  rwa [decide_eq_true h] at this
set_option maxRecDepth 100000 in
set_option maxHeartbeats 1000000 in
theorem none_any (s : ByteArray) (hs : s.size ≤ 1000000) (w : World) : Calls Tryd.prog 19 #[.string s] w (Says (ans (dl s)).isNone w) := by
  have HP := Lib.hid (Parse_any s hs)
  obtain ⟨o, ho⟩ : ∃ o, ans (dl s) = o := ⟨_, rfl⟩
  rw [ho] at HP ⊢
  clear ho hs
  cases o with
  | none =>
    go_enter Tryd.func19, Tryd.ntmps19
    go_wp2_with fail
    refine (HP.out _).mono ?_
    rintro e w1 ⟨rfl, hB⟩
    go_wp2_with fail
    go_ret
    exact says_mk rfl hB
  | some x =>
    go_enter Tryd.func19, Tryd.ntmps19
    go_wp2_with fail
    refine (HP.out _).mono ?_
    rintro e w1 ⟨rfl, hB⟩
    go_wp2_with fail
    go_ret
    exact says_mk rfl hB
theorem none_yes (s : ByteArray) (hs : s.size ≤ 1000000) (w : World) (h : ans (dl s) = none) : Calls Tryd.prog 19 #[.string s] w (Says true w) := by
  have := none_any s hs w
  rw [h] at this
  exact this
theorem Ends_is (s : ByteArray) (q : Bool) (hs : s.size ≤ 1000000) (w : World) (h : ends (dl s) = q) : Calls Tryd.prog 13 #[.string s] w (Says q w) := by
  have := Ends_any s hs w
  rwa [h] at this

theorem shw_lit : bs (shw 3232235521) = ⟨#[49, 57, 50, 46, 49, 54, 56, 46, 48, 46, 49]⟩ := by
  have h0 : byt 3232235521 0 = 192 := by decide
  have h1 : byt 3232235521 1 = 168 := by decide
  have h2 : byt 3232235521 2 = 0 := by decide
  have h3 : byt 3232235521 3 = 1 := by decide
  have d0 : digs 10 192 = [49, 57, 50] := by simp [digs, dgB]
  have d1 : digs 10 168 = [49, 54, 56] := by simp [digs, dgB]
  have d2 : digs 10 0 = [48] := by simp [digs, dgB]
  have d3 : digs 10 1 = [49] := by simp [digs, dgB]
  rw [shw, bts, h0, h1, h2, h3, d0, d1, d2, d3]
  rfl
theorem Show_lit (w : World) (hp : PowIs w) : Calls Tryd.prog 15 #[.int .u32 3232235521] w (fun e w1 => e = .returned (.string ⟨#[49, 57, 50, 46, 49, 54, 56, 46, 48, 46, 49]⟩) ∧ Below w.heap.size w w1) := by
  have := Show_any 3232235521 (by decide) w hp
  unfold Texts at this
  rw [shw_lit] at this
  exact this

set_option maxRecDepth 100000 in
set_option maxHeartbeats 2000000 in
theorem awake_any (w : World) (hp : PowIs w) : Calls Tryd.prog 8 #[] w (Says true w) := by
  have HP := Lib.hid hp
  clear hp
  have H0 := Lib.hid (fun w => says_yes ⟨#[49, 57, 50, 46, 49, 54, 56, 46, 48, 46, 49]⟩ 3232235521 (by decide) w (by decide +kernel))
  have H1 := Lib.hid (fun w => says_yes ⟨#[48, 120, 99, 48, 46, 48, 50, 53, 48, 46, 49]⟩ 3232235521 (by decide) w (by decide +kernel))
  have H2 := Lib.hid (fun w => says_yes ⟨#[51, 50, 51, 50, 50, 51, 53, 53, 50, 49]⟩ 3232235521 (by decide) w (by decide +kernel))
  have H3 := Lib.hid (fun w => says_yes ⟨#[49, 46, 50, 46, 51, 46, 52, 46]⟩ 16909060 (by decide) w (by decide +kernel))
  have H4 := Lib.hid (fun w => none_yes ⟨#[50, 53, 54, 46, 49]⟩ (by decide) w (by decide +kernel))
  have H5 := Lib.hid (fun w => none_yes ⟨#[49, 46, 46, 50]⟩ (by decide) w (by decide +kernel))
  have H6 := Lib.hid (fun w => none_yes ⟨#[49, 46, 50, 46, 51, 46, 52, 46, 53]⟩ (by decide) w (by decide +kernel))
  have H7 := Lib.hid (fun w => none_yes ⟨#[48, 56]⟩ (by decide) w (by decide +kernel))
  have H8 := Lib.hid (fun w => Ends_is ⟨#[48, 56]⟩ true (by decide) w (by decide +kernel))
  have H9 := Lib.hid (fun w => Ends_is ⟨#[]⟩ false (by decide) w (by decide +kernel))
  have H10 := Lib.hid (fun w => Ends_is ⟨#[97, 46, 48, 120]⟩ true (by decide) w (by decide +kernel))
  go_enter Tryd.func8, Tryd.ntmps8
  have hB0 := Below.refl w.heap.size w
  go_wp2_with fail
  refine (H0.out _).mono ?_
  rintro e w1 ⟨rfl, hb1⟩
  have hB1 := hB0.trans (hb1.mono hB0.size)
  go_wp2_with fail
  refine (H1.out _).mono ?_
  rintro e w2 ⟨rfl, hb2⟩
  have hB2 := hB1.trans (hb2.mono hB1.size)
  go_wp2_with fail
  refine (H2.out _).mono ?_
  rintro e w3 ⟨rfl, hb3⟩
  have hB3 := hB2.trans (hb3.mono hB2.size)
  go_wp2_with fail
  refine (H3.out _).mono ?_
  rintro e w4 ⟨rfl, hb4⟩
  have hB4 := hB3.trans (hb4.mono hB3.size)
  go_wp2_with fail
  refine (H4.out _).mono ?_
  rintro e w5 ⟨rfl, hb5⟩
  have hB5 := hB4.trans (hb5.mono hB4.size)
  go_wp2_with fail
  refine (H5.out _).mono ?_
  rintro e w6 ⟨rfl, hb6⟩
  have hB6 := hB5.trans (hb6.mono hB5.size)
  go_wp2_with fail
  refine (H6.out _).mono ?_
  rintro e w7 ⟨rfl, hb7⟩
  have hB7 := hB6.trans (hb7.mono hB6.size)
  go_wp2_with fail
  refine (H7.out _).mono ?_
  rintro e w8 ⟨rfl, hb8⟩
  have hB8 := hB7.trans (hb8.mono hB7.size)
  go_wp2_with fail
  refine (H8.out _).mono ?_
  rintro e w9 ⟨rfl, hb9⟩
  have hB9 := hB8.trans (hb9.mono hB8.size)
  go_wp2_with fail
  refine (H9.out _).mono ?_
  rintro e w10 ⟨rfl, hb10⟩
  have hB10 := hB9.trans (hb10.mono hB9.size)
  go_wp2_with fail
  refine (H10.out _).mono ?_
  rintro e w11 ⟨rfl, hb11⟩
  have hB11 := hB10.trans (hb11.mono hB10.size)
  go_wp2_with fail
  refine (Show_lit _ (HP.out.go hB11)).mono ?_
  rintro e w12 ⟨rfl, hb12⟩
  have hB12 := hB11.trans (hb12.mono hB11.size)
  go_wp2_with fail
  go_ret
  exact says_mk rfl hB12
end Go.Proofs.YtpmdecdjlegcnaaDoor.Fou
