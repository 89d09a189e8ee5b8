/-
  FourBack: whatever the two addresses, what is shown is read as that address, and unlike addresses are shown unlike: the law returns true.
  Conditions: those of the card (the variables that the row lists are laid as the program's text lays them).
-/
import Derived.Test.YtpmdecdjlegcnaaDoorFourI
import Derived.Test.YtpmdecdjlegcnaaDoorFourN
import Derived.Test.YtpmdecdjlegcnaaDoorFrame
import Derived.Test.YtpmdecdjlegcnaaDoorTie
import Derived.Test.YtpmdecdjlegcnaaDoorCards
import Derived.Test.YtpmdecdjlegcnaaDoorFourP
import Derived.ProofKit
import Derived.Lay
import Derived.Stop.Joined
import Derived.SevenTiedAt
namespace Go.Proofs.YtpmdecdjlegcnaaDoor.fourBack
open Go.ChangeShapes Go.WideShapes Go.ChangeAt Go.RowKit Fou
open Go.ChangeMaps (open_string shut_string)

theorem app_data (p q : ByteArray) : dl (p ++ q) = dl p ++ dl q := by
  rw [dl, ByteArray.data_append, Array.toList_append]
theorem spl_shw (x : Nat) : spl (shw x) = bts x := spl_join _ (by simp [bts]) (bts_no x)
/-- the four texts, where they stand -/
def Four2 (x h : Nat) (w : World) : Prop := (∀ j, j < 4 → w.cell? ⟨h, j, none⟩ = some (.string (bs (digs 10 (byt x j))))) ∧ h < w.heap.size
theorem Four2.go {x h : Nat} {w w' : World} (hf : Four2 x h w) (hb : Below w.heap.size w w') : Four2 x h w' :=
  ⟨fun j hj => (hb.cell (p := ⟨h, j, none⟩) hf.2).trans (hf.1 j hj), Nat.lt_of_lt_of_le hf.2 hb.size⟩
theorem parted_shw {x : Nat} {s : ByteArray} (hs : dl s = shw x) {w : World} {e : Ending} {w' : World} (h : Parted (dl s) w e w') : e = .returned (.slice (some ⟨w.heap.size, 0, none⟩) 4 4) ∧ Four2 x w.heap.size w' ∧ Below w.heap.size w w' := by
  obtain ⟨xs, he, hx, hw⟩ := h
  have e1 : xs.map dl = bts x := by rw [hx, hs, spl_shw]
  have e2 : xs = (bts x).map bs := by
    rw [← e1, List.map_map]
    exact (List.map_id'' (fun y => (bs_eq rfl).symm) xs).symm
  subst e2
  refine ⟨he, ⟨fun j hj => ?_, ?_⟩, ?_⟩
  · rw [hw, cell_of_row _ _ _ _ _ (0, 0) (World.alloc_heap_new w _)]
    have hjs : j = 0 ∨ j = 1 ∨ j = 2 ∨ j = 3 := by omega
    rcases hjs with rfl | rfl | rfl | rfl <;> rfl
  · rw [hw]; simp
  · rw [hw]; exact (Below.refl _ w).alloc (Nat.le_refl _) _
theorem two_same {x y : Nat} {s t : ByteArray} (hx : x < 4294967296) (hy : y < 4294967296) (hs : dl s = shw x) (ht : dl t = shw y) : (t.toList == s.toList) = ((x : Int) == (y : Int)) := by
  rw [str_beq]
  by_cases h : x = y
  · subst h
    rw [decide_eq_true (bytes_ext.2 (ht.trans hs.symm))]
    simp
  · rw [decide_eq_false (fun e => h (shw_inj hx hy (by rw [← hs, ← ht, e]))) ]
    symm
    exact beq_eq_false_iff_ne.2 (by omega)
set_option maxRecDepth 100000 in
set_option maxHeartbeats 4000000 in
theorem walk (a0 a1 : Int) (w : World) (h0 : 0 ≤ a0) (h0' : a0 ≤ 4294967295) (h1 : 0 ≤ a1) (h1' : a1 ≤ 4294967295) (hp : PowIs w) :
    Calls Tryd.prog 4 #[.int .u32 a0, .int .u32 a1] w (fun e w' => e = .returned (.bool true) ∧ Below w.heap.size w w') := by
  obtain ⟨x, rfl⟩ := Int.eq_ofNat_of_zero_le h0
  obtain ⟨y, rfl⟩ := Int.eq_ofNat_of_zero_le h1
  have hx : x < 4294967296 := by omega
  have hy : y < 4294967296 := by omega
  have hxi : (x : Int) < 4294967296 := by omega
  have HP := Lib.hid hp
  have HX := Lib.hid hx
  have HY := Lib.hid hy
  have HV0 : Hid (wrap64 (bits .and .u32 ((x : Int) / 16777216) 255) = (byt x 0 : Int)) := Lib.hid (and255' (x / 16777216) (by omega))
  have HV1 : Hid (wrap64 (bits .and .u32 ((x : Int) / 65536) 255) = (byt x 1 : Int)) := Lib.hid (and255' (x / 65536) (by omega))
  have HV2 : Hid (wrap64 (bits .and .u32 ((x : Int) / 256) 255) = (byt x 2 : Int)) := Lib.hid (and255' (x / 256) (by omega))
  have HV3 : Hid (wrap64 (bits .and .u32 (x : Int) 255) = (byt x 3 : Int)) := Lib.hid ((and255' x hx).trans (by unfold byt; simp))
  clear hp hx hy h0 h1 h0' h1'
  go_enter Tryd.func4, Tryd.ntmps4
  go_wp2_with fail
  refine (Show_any x HX.out w HP.out).mono ?_
  rintro e w1 ⟨rfl, hb1⟩
  obtain ⟨s, hs⟩ : ∃ s, bs (shw x) = s := ⟨_, rfl⟩
  rw [hs]
  have HS : Hid (dl s = shw x) := Lib.hid (by rw [← hs]; exact bs_data _)
  have hsz : s.size ≤ 15 := by rw [← hs, bs_size]; exact shw_len x
  clear hs
  have HZ := Lib.hid hsz
  go_wp2_with fail
  refine (Split_dot s _ (by omega)).mono ?_
  intro e w2 hpt
  obtain ⟨rfl, hF, hb2⟩ := parted_shw HS.out hpt
  have hB2 := upB hb1 hb2
  have HF := Lib.hid hF
  obtain ⟨h, hh⟩ : ∃ h, w1.heap.size = h := ⟨_, rfl⟩
  rw [hh] at HF ⊢
  clear hpt hF hsz hb2 hh
  go_wp2_with fail
  refine (says_yes s x (by have := HZ.out; omega) _ (by rw [HS.out]; exact ans_shw HX.out)).mono ?_
  rintro e w3 ⟨rfl, hb3⟩
  have hB3 := upB hB2 hb3
  have HF3 := Lib.hid (HF.out.go hb3)
  have HD1 : Hid (dl (s ++ ⟨#[46]⟩) = shw x ++ [46]) := Lib.hid (by rw [app_data, HS.out])
  have HD2 : Hid (dl (s ++ ⟨#[46, 46]⟩) = shw x ++ [46] ++ [46]) := Lib.hid (by rw [app_data, HS.out, List.append_assoc]; rfl)
  have HZ1 : Hid ((s ++ ⟨#[46]⟩).size ≤ 1000000) := Lib.hid (by rw [ByteArray.size_append]; have := HZ.out; show s.size + 1 ≤ _; omega)
  have HZ2 : Hid ((s ++ ⟨#[46, 46]⟩).size ≤ 1000000) := Lib.hid (by rw [ByteArray.size_append]; have := HZ.out; show s.size + 2 ≤ _; omega)
  have hsz := HZ.out
  go_wp2_with fail
  refine (says_yes _ x HZ1.out _ (by rw [HD1.out]; exact ans_shw_dot HX.out)).mono ?_
  rintro e w4 ⟨rfl, hb4⟩
  have hB4 := upB hB3 hb4
  have HF4 := Lib.hid (HF3.out.go hb4)
  go_wp2_with fail
  refine (none_yes _ HZ2.out _ (by rw [HD2.out]; exact ans_dots _)).mono ?_
  rintro e w5 ⟨rfl, hb5⟩
  have hB5 := upB hB4 hb5
  have HF5 := Lib.hid (HF4.out.go hb5)
  go_wp2_with fail
  refine (Ends_is s true (by omega) _ (by rw [HS.out]; exact ends_shw x)).mono ?_
  rintro e w6 ⟨rfl, hb6⟩
  have hB6 := upB hB5 hb6
  have HF6 := Lib.hid (HF5.out.go hb6)
  go_wp2_with fail
  refine (Ends_is _ true HZ1.out _ (by rw [HD1.out]; exact ends_shw_dot x)).mono ?_
  rintro e w7 ⟨rfl, hb7⟩
  have hB7 := upB hB6 hb7
  have HF7 := Lib.hid (HF6.out.go hb7)
  clear hB2 hB3 hB4 hB5 hB6 hb1 hb3 hb4 hb5 hb6 hb7 HF HF3 HF4 HF5 HF6 HD1 HD2 HZ1 HZ2
  go_wp2_with fail
  go_loopg [48] 4 (fun m s48 wr => ∃ k : Nat, s48 = .int .i64 (k : Int) ∧ m = 4 - k ∧ k ≤ 4 ∧ Hid (Four2 x h wr) ∧ Below w.heap.size w wr)
  case atStart => exact ⟨0, rfl, rfl, by decide, HF7, hB7⟩
  case round =>
    obtain ⟨k, rfl, rfl, hk, HF, hB⟩ := hrel
    have hks : k = 4 ∨ k = 0 ∨ k = 1 ∨ k = 2 ∨ k = 3 := by omega
    clear hB7 HF7
    rcases hks with rfl | rfl | rfl | rfl | rfl
    · go_wp2_with fail
      refine (Show_any y HY.out _ (HP.out.go hB)).mono ?_
      rintro e w1 ⟨rfl, hb⟩
      have hB1 := upB hB hb
      obtain ⟨t, ht⟩ : ∃ t, bs (shw y) = t := ⟨_, rfl⟩
      rw [ht]
      have HT : Hid (dl t = shw y) := Lib.hid (by rw [← ht]; exact bs_data _)
      have hsame := two_same HX.out HY.out HS.out HT.out
      have HA := Lib.hid (awake_any w1 (HP.out.go hB1))
      clear ht HF hk
      cases hq : ((x : Int) == (y : Int)) with
      | true =>
        rw [hq] at hsame
        go_wp2_with fail
        refine HA.out.mono ?_
        rintro e w2 ⟨rfl, hb2⟩
        go_wp2_with fail
        go_ret
        exact ⟨rfl, upB hB1 hb2⟩
      | false =>
        rw [hq] at hsame
        go_wp2_with fail
        refine HA.out.mono ?_
        rintro e w2 ⟨rfl, hb2⟩
        go_wp2_with fail
        go_ret
        exact ⟨rfl, upB hB1 hb2⟩
    · have c0 := HF.out.1 0 (by decide)
      go_wp2_with fail
      rw [HV0.out]
      refine (Itoa_digs (byt x 0) (by have := byt_lt x 0; omega) _ (HP.out.go hB)).mono ?_
      rintro e w1 ⟨rfl, hb⟩
      have hB1 := upB hB hb
      have HF1 := Lib.hid (HF.out.go hb)
      clear c0
      go_wp2_with fail
      go_roundg 3
      case measure => omega
      case rel => exact ⟨0 + 1, by go_num, rfl, by decide, HF1, hB1⟩
    · have c0 := HF.out.1 1 (by decide)
      go_wp2_with fail
      rw [HV1.out]
      refine (Itoa_digs (byt x 1) (by have := byt_lt x 1; omega) _ (HP.out.go hB)).mono ?_
      rintro e w1 ⟨rfl, hb⟩
      have hB1 := upB hB hb
      have HF1 := Lib.hid (HF.out.go hb)
      clear c0
      go_wp2_with fail
      go_roundg 2
      case measure => omega
      case rel => exact ⟨1 + 1, by go_num, rfl, by decide, HF1, hB1⟩
    · have c0 := HF.out.1 2 (by decide)
      go_wp2_with fail
      rw [HV2.out]
      refine (Itoa_digs (byt x 2) (by have := byt_lt x 2; omega) _ (HP.out.go hB)).mono ?_
      rintro e w1 ⟨rfl, hb⟩
      have hB1 := upB hB hb
      have HF1 := Lib.hid (HF.out.go hb)
      clear c0
      go_wp2_with fail
      go_roundg 1
      case measure => omega
      case rel => exact ⟨2 + 1, by go_num, rfl, by decide, HF1, hB1⟩
    · have c0 := HF.out.1 3 (by decide)
      go_wp2_with fail
      rw [HV3.out]
      refine (Itoa_digs (byt x 3) (by have := byt_lt x 3; omega) _ (HP.out.go hB)).mono ?_
      rintro e w1 ⟨rfl, hb⟩
      have hB1 := upB hB hb
      have HF1 := Lib.hid (HF.out.go hb)
      clear c0
      go_wp2_with fail
      go_roundg 0
      case measure => omega
      case rel => exact ⟨3 + 1, by go_num, rfl, by decide, HF1, hB1⟩

/-! From the walk to the given statement. -/
set_option linter.unusedVariables false
theorem own : ownKnob Tryd.prog.godebug = none := by kernel_rfl
theorem laidOut : laidOutB Tryd.prog = true := by kernel_rfl
set_option maxRecDepth 100000 in
theorem lifted (os : Os) (started : os.Started) (H : Type) (enc : TypeId × Value → H) :
    ReturnsInHanded {} Tryd.checked os 4 .any (fun w args => (Rows.fourBackSpec.pre enc Tryd.prog Tryd.f4 [] false w args ∧ laidMetH Tryd.prog Rows.fourBackRow.laid w) ∧ sizedMet enc Tryd.prog Tryd.f4 (OpenSpec.ofChange Rows.fourBackSpec) false w args)
      (Rows.fourBackSpec.post enc Tryd.prog Tryd.f4 false true false false) := by
  refine returnsInHanded_of_change_and (C := Tryd.checked) (X := fun w _ => laidMetH Tryd.prog Rows.fourBackRow.laid w) (fun _ _ _ hh h => h.of_heap hh) own started (by kernel_rfl) Tryd.func4
    (ChangeSpec.witness_shaped (enc := enc) (C := Tryd.checked) (os := os) (X := fun w _ => laidMetH Tryd.prog Rows.fourBackRow.laid w) false (World.laidAll Tryd.prog os Rows.fourBackRow.laid) #[.int .u32 0, .int .u32 0] 8 (World.laidAll_os _ _ _)
      (World.shaped_of_ZipB (by kernel_rfl) (by kernel_rfl)) (by kernel_rfl) (by kernel_rfl) (by kernel_rfl)
      (by rw [MakeChecks.laidMetH_plain _ _ _ (by kernel_rfl)]; exact laidMet_laidAll _ (by kernel_rfl) (by kernel_rfl))) ?_
  intro W base args ds gs before hval0 hW _ _ hL _
  have hval : ∀ (j : Nat) t v, Tryd.f4.params[j]? = some t → args[j]? = some v → Value.okWide Tryd.prog W .any base t v := hval0
  have hW' := hW
  obtain ⟨p, q, hA0, hV, rfl, _, _⟩ := hW
  have hA : DataW.TrodAll enc Tryd.prog W 0 (fun _ => true) true Tryd.f4.params.toList args.toList ds p := hA0
  rw [Tryd.params4] at hA hval
  obtain ⟨v0, vs0, d0, ds0, p0, q0, hargs, rfl, rfl, h0, r0⟩ := trodAll_cons hA
  obtain ⟨v1, vs1, d1, ds1, p1, q1, rfl, rfl, rfl, h1, r1⟩ := trodAll_cons r0
  obtain ⟨rfl, rfl, rfl⟩ := trodAll_nil r1
  obtain rfl : args = #[v0, v1] := by cases args; simp_all
  obtain ⟨rfl, rfl⟩ := trodVars_none hV
  obtain ⟨a0, rfl, rfl, rfl, w0⟩ := open_int Tryd.underlying22 (hval 0 22 v0 rfl rfl) h0
  have b0 : 0 ≤ a0 ∧ a0 ≤ 4294967295 := by simpa [Lit.wf, IntKind.min, IntKind.max, IntKind.signed, IntKind.bits] using w0
  obtain ⟨a1, rfl, rfl, rfl, w1⟩ := open_int Tryd.underlying22 (hval 1 22 v1 rfl rfl) h1
  have b1 : 0 ≤ a1 ∧ a1 ≤ 4294967295 := by simpa [Lit.wf, IntKind.min, IntKind.max, IntKind.signed, IntKind.bits] using w1
  clear hA0 hval0
  rw [MakeChecks.laidMetH_plain _ _ _ (by kernel_rfl)] at hL
  have hPow : PowIs W := powIs_of_reads (Lib.laidMet.reads hL (.tail _ (.tail _ (.head _))))
  refine (walk a0 a1 W b0.1 b0.2 b1.1 b1.2 hPow).mono fun e W' ⟨he, bel⟩ => ?_
  subst he
  exact ⟨_, rfl, _, _, _, [], _, [], hW', trodAll_mk1 (shut_bool Tryd.underlying4 _), (trodAll_cons_mk (shut_int Tryd.underlying22 w0) (trodAll_cons_mk (shut_int Tryd.underlying22 w1) trodAll_mk0)), rfl, bel.frame _, fun h => by cases h⟩

theorem row_holds : Rows.FourBackSaid :=
  OpenClaim.holds_of_wide 4 Tryd.f4 rfl rfl rfl rfl rfl rfl rfl ⟨rfl, rfl, rfl, rfl, rfl⟩ rfl rfl rfl rfl rfl (by kernel_rfl) Tryd.func4 (by kernel_rfl)
    (of_decide_eq_true (by kernel_rfl)) (by unfold Func.isWrapper; first | (rw [if_pos (by decide +kernel)]; kernel_rfl) | (rw [if_neg (by decide +kernel)]; exact ⟨rfl, rfl⟩))
    (fun os started H enc _ => lifted os started H enc)

theorem proved : Rows.FourBackCardSaid :=
  Claim7.holds_tied_plain_at .later [] [.data, .data, .data, .data, .pinned] true (true, "8c916d87dac566d43f12e0c8e58974611998e2cc655645d3f4376929a58bf9d1") false
    row_holds (fun _ h => by cases h) (by kernel_rfl) (fun _ h => by cases h) fourBack_row_tie rfl ⟨rfl, rfl⟩ (by kernel_rfl) rfl
    (fun f fn hf hfn => by
      obtain rfl : f = 4 := Option.some.inj ((show Tryd.prog.funcNamed "fascia/fascialaw12.FourBack" = some 4 by kernel_rfl).symm.trans hf) |>.symm
      obtain rfl : fn = Tryd.f4 := (Option.some.inj (Tryd.func4.symm.trans hfn)).symm
      exact ⟨by kernel_rfl, fun j t ht => by
        rw [Tryd.params4] at ht
        have hm : t ∈ [22, 22] := by simpa using Array.mem_of_getElem? ht
        have hall : ([22, 22].all fun u => !Tryd.prog.wantsStandIn u) = true := by kernel_rfl
        exact (show Tryd.prog.wantsStandIn t = false by simpa using List.all_eq_true.1 hall t hm)⟩)
    (by kernel_rfl)
end Go.Proofs.YtpmdecdjlegcnaaDoor.fourBack
