/-
  FourEnds: whatever the two texts (up to the lengths that the law itself names), what is read ends in a number, and whether a text does hangs on its last part alone: the law returns true.
  Conditions: those of the card (the variables that the row lists are laid as the program's text lays them).
-/
import Derived.Test.YtpmdecdjlegcnaaDoorFourQ
import Derived.Deep.CutRange
import Derived.Test.YtpmdecdjlegcnaaDoorFrame
import Derived.Test.YtpmdecdjlegcnaaDoorTie
import Derived.Test.YtpmdecdjlegcnaaDoorCards
import Derived.Test.YtpmdecdjlegcnaaDoorFourP
import Derived.ProofKit
import Derived.Lay
import Derived.Stop.Joined
import Derived.SevenTiedAt
namespace Go.Proofs.YtpmdecdjlegcnaaDoor.fourEnds
open Go.ChangeShapes Go.WideShapes Go.ChangeAt Go.RowKit Fou
open Go.ChangeMaps (open_string shut_string)

theorem app_data (p q : ByteArray) : dl (p ++ q) = dl p ++ dl q := by
  rw [dl, ByteArray.data_append, Array.toList_append]
theorem lst_nil : lst [] = [] := lst_of (r := []) rfl
/-- behind a point, a text of one part ends as that part does -/
theorem ends_x (q : List UInt8) (h : (46 : UInt8) ∉ q) : ends ([120, 46] ++ q) = endq q := by
  cases q with
  | nil => rw [ends_lst]; show endq (lst [120, 46]) = _; rw [lst_x, endq_x]; rfl
  | cons b t => rw [ends_lst, show [120, 46] ++ b :: t = [120] ++ 46 :: (b :: t) from rfl, lst_behind _ (by simp), lst_self h]
theorem ends_self {q : List UInt8} (h : (46 : UInt8) ∉ q) : ends q = endq q := by rw [ends_lst, lst_self h]
theorem ends_behind (a : List UInt8) {l : List UInt8} (h : l ≠ []) : ends (a ++ 46 :: l) = endq (lst l) := by rw [ends_lst, lst_behind a h]
theorem size_app (p q : ByteArray) : (p ++ q).size = p.size + q.size := ByteArray.size_append
theorem neq_str (s t : ByteArray) (h : s ≠ t) : (s.toList == t.toList) = false := by rw [str_beq, decide_eq_false h]
def LastQ (l : List UInt8) (v : Value) : Prop := ∃ q : ByteArray, v = .string q ∧ Hid (dl q = lst l) ∧ q.size ≤ 200
set_option maxRecDepth 100000 in
set_option maxHeartbeats 4000000 in
theorem walk (s a : ByteArray) (w : World) (hs : s.size ≤ maxLen) (ha : a.size ≤ maxLen) (hp : PowIs w) :
    Calls Tryd.prog 7 #[.string s, .string a] w (fun e w' => e = .returned (.bool true) ∧ Below w.heap.size w w') := by
  unfold maxLen at hs ha
  have HA := Lib.hid (fun w' (hB : Below w.heap.size w w') => awake_any w' (hp.go hB))
  clear hp
  by_cases hbig : 200 < s.size
  · go_enter Tryd.func7, Tryd.ntmps7
    go_wp2_with fail
    refine (HA.out _ (Below.refl _ _)).mono ?_
    rintro e w1 ⟨rfl, hb1⟩
    go_wp2_with fail
    go_ret
    exact ⟨rfl, hb1⟩
  by_cases hbig2 : 50 < a.size
  · go_enter Tryd.func7, Tryd.ntmps7
    go_wp2_with fail
    refine (HA.out _ (Below.refl _ _)).mono ?_
    rintro e w1 ⟨rfl, hb1⟩
    go_wp2_with fail
    go_ret
    exact ⟨rfl, hb1⟩
  have hs2 : s.size ≤ 200 := by omega
  have ha2 : a.size ≤ 50 := by omega
  clear hs ha hbig hbig2
  have HS2 := Lib.hid hs2
  go_enter Tryd.func7, Tryd.ntmps7
  go_wp2_with fail
  refine (Parse_u s _ (by omega)).mono ?_
  rintro e w1 ⟨p, n, rfl, hq, hb1⟩
  have HQ := Lib.hid hq
  clear hq
  have HB1 := Lib.hid hb1
  go_upto_region 4 with fail
  go_cut [34] from 28 (fun s34 wc => s34 = .bool false ∧ Below w.heap.size w wc)
  case first =>
    rcases HQ.out with ⟨rfl, hq⟩ | ⟨rfl, hq⟩
    · have hE : ends (dl s) = true := ans_ends hq
      clear hq
      go_wp2_with fail
      refine (Ends_is s true (by omega) _ hE).mono ?_
      rintro e w2 ⟨rfl, hb2⟩
      go_wp2_with fail
      go_meet
      case rel => exact ⟨rfl, upB HB1.out hb2⟩
    · clear hq
      go_wp2_with fail
      go_meet
      case rel => exact ⟨rfl, HB1.out⟩
  case rest =>
  obtain ⟨rfl, hB⟩ := hcut
  clear HB1 hb1
  go_wp2_with fail
  refine (TrimSuffix_dot s _ (by omega)).mono ?_
  rintro e w2 ⟨t, rfl, ht, rfl⟩
  have htz : t.size ≤ 200 := by
    rw [Lib.size_eq]
    show (dl t).length ≤ _
    rw [ht]
    have := trm_size s.data.toList
    rw [← Lib.size_eq] at this
    omega
  have HT := Lib.hid ht
  clear ht
  go_upto_region 7 with fail
  go_cut [8] from 37 to 41 (fun s8 wc => LastQ (dl s) s8 ∧ Below w.heap.size w wc)
  case first =>
    go_wp2_with fail
    refine (LastIndexByte_dot t _ (by omega)).mono ?_
    rintro e w3 ⟨r, rfl, hr, rfl⟩
    rcases last_lst HT.out hr with ⟨rfl, h1⟩ | ⟨c, b, h1, h2, rfl⟩
    · have H1 := Lib.hid h1
      clear h1 hr
      go_wp2_with fail
      go_meet
      case rel => exact ⟨⟨t, rfl, H1, htz⟩, hB⟩
    · have hal : c.length < t.size := by
        rw [Lib.size_eq]
        show _ < (dl t).length
        rw [h1]; simp
      have hxe : dl (t.extract (c.length + 1) t.size) = b := by
        rw [dl, ext_drop _ _ _ rfl]
        show (dl t).drop _ = _
        rw [h1]
        simp
      have hxz : (t.extract (c.length + 1) t.size).size ≤ 200 := by
        rw [Lib.size_eq]
        show (dl _).length ≤ _
        rw [hxe]
        have : (dl t).length = t.size := (Lib.size_eq _).symm
        rw [h1] at this
        simp at this
        omega
      have H1 : Hid (dl (t.extract (c.length + 1) t.size) = lst (dl s)) := Lib.hid (hxe.trans h2)
      have h3 : (c.length : Int) + 1 ≤ t.size := by omega
      clear h1 h2 hxe hr
      go_wp2_with fail
      go_meet
      case rel => exact ⟨⟨_, rfl, H1, hxz⟩, hB⟩
  case rest =>
  obtain ⟨⟨q, rfl, HL, hqz⟩, hB⟩ := hcut
  by_cases hs0 : dl s = []
  · have e1 : s.toList = [] := by rw [ByteArray.toList_eq]; exact hs0
    have e2 : s.toList.isEmpty = true := by rw [e1]; rfl
    have HE : Hid (ends (dl s) = false) := Lib.hid (by rw [hs0, ends_lst, lst_nil]; rfl)
    clear hs0
    go_wp2_with fail
    refine (Ends_is s false (by omega) _ HE.out).mono ?_
    rintro e w3 ⟨rfl, hb3⟩
    go_wp2_with fail
    refine (HA.out _ (upB hB hb3)).mono ?_
    rintro e w4 ⟨rfl, hb4⟩
    go_wp2_with fail
    go_ret
    exact ⟨rfl, upB (upB hB hb3) hb4⟩
  have e1 : s.toList ≠ [] := by rw [ByteArray.toList_eq]; exact hs0
  have e2 : s.toList.isEmpty = false := by rw [List.isEmpty_eq_false_iff]; exact e1
  have HNo : Hid ((46 : UInt8) ∉ dl q) := Lib.hid (by rw [HL.out]; exact lst_no _)
  have HE : Hid (ends (dl s) = endq (dl q)) := Lib.hid (by rw [ends_lst, HL.out])
  have HEq : Hid (ends (dl q) = endq (dl q)) := Lib.hid (ends_self HNo.out)
  have HE1 : Hid (ends (dl (a ++ ⟨#[46]⟩ ++ s)) = endq (dl q)) := Lib.hid (by
    rw [app_data, app_data, show dl ⟨#[46]⟩ = [46] from rfl, List.append_assoc]
    show ends (dl a ++ 46 :: dl s) = _
    rw [ends_behind _ hs0, HL.out])
  have HE2 : Hid (ends (dl (⟨#[120, 46]⟩ ++ s)) = endq (dl q)) := Lib.hid (by
    rw [app_data, show dl ⟨#[120, 46]⟩ = [120] ++ [46] from rfl, List.append_assoc]
    show ends ([120] ++ 46 :: dl s) = _
    rw [ends_behind _ hs0, HL.out])
  have HE3 : Hid (ends (dl (⟨#[120, 46]⟩ ++ q)) = endq (dl q)) := Lib.hid (by
    rw [app_data]
    exact ends_x _ HNo.out)
  have hz1 : (a ++ ⟨#[46]⟩).size ≤ 51 := by rw [size_app]; show a.size + 1 ≤ _; omega
  have HZ1 : Hid ((a ++ ⟨#[46]⟩ ++ s).size ≤ 1000000) := Lib.hid (by rw [size_app]; omega)
  have HZ2 : Hid ((⟨#[120, 46]⟩ ++ s).size ≤ 1000000) := Lib.hid (by rw [size_app]; show 2 + s.size ≤ _; omega)
  have HZ3 : Hid ((⟨#[120, 46]⟩ ++ q).size ≤ 1000000) := Lib.hid (by rw [size_app]; show 2 + q.size ≤ _; omega)
  have HS0 := Lib.hid hs0
  clear hs0 HL
  obtain ⟨E, hE⟩ : ∃ E, endq (dl q) = E := ⟨_, rfl⟩
  rw [hE] at HE HEq HE1 HE2 HE3
  have HEE := Lib.hid hE
  clear hE
  go_upto_region 10 with fail
  go_cut [70] from 50 to 70 (fun s70 wc => s70 = .bool false ∧ Below w.heap.size w wc)
  case first =>
    by_cases hq0 : dl q = []
    · have hE0 : E = false := by rw [← HEE.out, hq0]; rfl
      subst hE0
      have g1 : q.toList = [] := by rw [ByteArray.toList_eq]; exact hq0
      have g2 : q.toList.isEmpty = true := by rw [g1]; rfl
      clear hq0
      go_wp2_with fail
      refine (Ends_is _ _ HZ1.out _ HE1.out).mono ?_
      rintro e w3 ⟨rfl, hb3⟩
      go_wp2_with fail
      refine (Ends_is _ _ HZ2.out _ HE2.out).mono ?_
      rintro e w4 ⟨rfl, hb4⟩
      go_wp2_with fail
      refine (Ends_is _ _ HZ3.out _ HE3.out).mono ?_
      rintro e w5 ⟨rfl, hb5⟩
      go_wp2_with fail
      go_meet
      case rel => exact ⟨rfl, upB (upB (upB hB hb3) hb4) hb5⟩
    · have g1 : q.toList ≠ [] := by rw [ByteArray.toList_eq]; exact hq0
      have g2 : q.toList.isEmpty = false := by rw [List.isEmpty_eq_false_iff]; exact g1
      clear hq0
      cases E
      all_goals
        go_wp2_with fail
        refine (Ends_is _ _ HZ1.out _ HE1.out).mono ?_
        rintro e w3 ⟨rfl, hb3⟩
        go_wp2_with fail
        refine (Ends_is _ _ HZ2.out _ HE2.out).mono ?_
        rintro e w4 ⟨rfl, hb4⟩
        go_wp2_with fail
        refine (Ends_is _ _ HZ3.out _ HE3.out).mono ?_
        rintro e w5 ⟨rfl, hb5⟩
        go_wp2_with fail
        refine (Ends_is q _ (by omega) _ HEq.out).mono ?_
        rintro e w6 ⟨rfl, hb6⟩
        go_wp2_with fail
        go_meet
        case rel => exact ⟨rfl, upB (upB (upB (upB hB hb3) hb4) hb5) hb6⟩
  case rest =>
  obtain ⟨rfl, hB⟩ := hcut
  clear HE1 HE2 HE3 HZ1 HZ2 HZ3 HEq
  go_wp2_with fail
  refine (Number_u q _ (by omega)).mono ?_
  rintro e w3 ⟨m, ok, rfl, hok, -, -, hb3⟩
  have HOK := Lib.hid hok
  have hB3 := upB hB hb3
  clear hok
  go_upto_region 13 with fail
  go_cut [11] from 76 to 82 (fun s11 wc => s11 = .bool (!(dl q).isEmpty && (val 10 (dl q)).isSome) ∧ Below w.heap.size w wc)
  case first =>
    by_cases hq0 : dl q = []
    · have g1 : q.toList = [] := by rw [ByteArray.toList_eq]; exact hq0
      have g2 : q.toList.isEmpty = true := by rw [g1]; rfl
      have HT2 : Hid ((!(dl q).isEmpty && (val 10 (dl q)).isSome) = false) := Lib.hid (by rw [hq0]; rfl)
      clear hq0
      go_wp2_with fail
      go_meet
      case rel => exact ⟨by rw [HT2.out], hB3⟩
    · have g1 : q.toList ≠ [] := by rw [ByteArray.toList_eq]; exact hq0
      have g2 : q.toList.isEmpty = false := by rw [List.isEmpty_eq_false_iff]; exact g1
      have HTR := Lib.hid (Trim_ten q w3 (by omega))
      obtain ⟨T, hT⟩ : ∃ T, (val 10 (dl q)).isSome = T := ⟨_, rfl⟩
      have HT2 : Hid ((!(dl q).isEmpty && (val 10 (dl q)).isSome) = T) := Lib.hid (by rw [List.isEmpty_eq_false_iff.2 hq0, hT]; rfl)
      rw [hT] at HTR
      clear hq0 hT
      go_wp2_with fail
      refine HTR.out.mono ?_
      rintro e w4 ⟨⟨u, rfl, hu⟩, hb4⟩
      have hu2 : (u.toList == []) = T := by rw [← hu]; cases u.toList <;> rfl
      go_wp2_with fail
      go_meet
      case rel => exact ⟨by rw [HT2.out], upB hB3 hb4⟩
  case rest =>
  obtain ⟨rfl, hB⟩ := hcut
  clear hB3 hb3
  obtain ⟨T, hT⟩ : ∃ T, (!(dl q).isEmpty && (val 10 (dl q)).isSome) = T := ⟨_, rfl⟩
  rw [hT]
  have HTT := Lib.hid hT
  clear hT
  go_upto_region 14 with fail
  go_cut [97] from 83 to 97 (fun s97 wc => s97 = .bool false ∧ Below w.heap.size w wc)
  case first =>
    cases hd : (s.toList == ([46] : List UInt8)) with
    | true =>
      have hd2 : (s.toList != ([46] : List UInt8)) = false := by rw [bne, hd]; rfl
      go_wp2_with fail
      go_meet
      case rel => exact ⟨rfl, hB⟩
    | false =>
      have hd2 : (s.toList != ([46] : List UInt8)) = true := by rw [bne, hd]; rfl
      by_cases hq0 : dl q = []
      · have hE0 : E = false := by rw [← HEE.out, hq0]; rfl
        subst hE0
        have g1 : q.toList = [] := by rw [ByteArray.toList_eq]; exact hq0
        have g2 : q.toList.isEmpty = true := by rw [g1]; rfl
        clear hq0
        go_wp2_with fail
        refine (Ends_is s _ (by omega) _ HE.out).mono ?_
        rintro e w5 ⟨rfl, hb5⟩
        go_wp2_with fail
        go_meet
        case rel => exact ⟨rfl, upB hB hb5⟩
      · have g1 : q.toList ≠ [] := by rw [ByteArray.toList_eq]; exact hq0
        have g2 : q.toList.isEmpty = false := by rw [List.isEmpty_eq_false_iff]; exact g1
        have hE0 : E = (ok || T) := by
          rw [← HEE.out, ← HTT.out, HOK.out, endq, List.isEmpty_eq_false_iff.2 hq0]
          cases (val 10 (dl q)).isSome <;> cases (num (dl q)).isSome <;> rfl
        subst hE0
        clear hq0
        cases ok
        all_goals
          cases T
          all_goals
            go_wp2_with fail
            refine (Ends_is s _ (by omega) _ HE.out).mono ?_
            rintro e w5 ⟨rfl, hb5⟩
            go_wp2_with fail
            go_meet
            case rel => exact ⟨rfl, upB hB hb5⟩
  case rest =>
  obtain ⟨rfl, hB⟩ := hcut
  clear HE HEE HOK HTT
  go_wp2_with fail
  refine (Number_u s _ (by omega)).mono ?_
  rintro e w6 ⟨m2, ok2, rfl, -, hm0, hm2, hb6⟩
  have hB6 := upB hB hb6
  cases ok2 with
  | true =>
    clear hm0
    go_wp2_with fail
    refine (HA.out _ hB6).mono ?_
    rintro e w7 ⟨rfl, hb7⟩
    go_wp2_with fail
    go_ret
    exact ⟨rfl, upB hB6 hb7⟩
  | false =>
    obtain rfl := hm0 rfl
    go_wp2_with fail
    refine (HA.out _ hB6).mono ?_
    rintro e w7 ⟨rfl, hb7⟩
    go_wp2_with fail
    go_ret
    exact ⟨rfl, upB hB6 hb7⟩

/-! From the walk to the given statement. -/
set_option linter.unusedVariables false
theorem own : ownKnob Tryd.prog.godebug = none := by kernel_rfl
theorem laidOut : laidOutB Tryd.prog = true := by kernel_rfl
set_option maxRecDepth 100000 in
theorem lifted (os : Os) (started : os.Started) (H : Type) (enc : TypeId × Value → H) :
    ReturnsInHanded {} Tryd.checked os 7 .any (fun w args => (Rows.fourEndsSpec.pre enc Tryd.prog Tryd.f7 [] false w args ∧ laidMetH Tryd.prog Rows.fourEndsRow.laid w) ∧ sizedMet enc Tryd.prog Tryd.f7 (OpenSpec.ofChange Rows.fourEndsSpec) false w args)
      (Rows.fourEndsSpec.post enc Tryd.prog Tryd.f7 false true false false) := by
  refine returnsInHanded_of_change_and (C := Tryd.checked) (X := fun w _ => laidMetH Tryd.prog Rows.fourEndsRow.laid w) (fun _ _ _ hh h => h.of_heap hh) own started (by kernel_rfl) Tryd.func7
    (ChangeSpec.witness_shaped (enc := enc) (C := Tryd.checked) (os := os) (X := fun w _ => laidMetH Tryd.prog Rows.fourEndsRow.laid w) false (World.laidAll Tryd.prog os Rows.fourEndsRow.laid) #[.string .empty, .string .empty] 8 (World.laidAll_os _ _ _)
      (World.shaped_of_ZipB (by kernel_rfl) (by kernel_rfl)) (by kernel_rfl) (by kernel_rfl) (by kernel_rfl)
      (by rw [MakeChecks.laidMetH_plain _ _ _ (by kernel_rfl)]; exact laidMet_laidAll _ (by kernel_rfl) (by kernel_rfl))) ?_
  intro W base args ds gs before hval0 hW _ _ hL _
  have hval : ∀ (j : Nat) t v, Tryd.f7.params[j]? = some t → args[j]? = some v → Value.okWide Tryd.prog W .any base t v := hval0
  have hW' := hW
  obtain ⟨p, q, hA0, hV, rfl, _, _⟩ := hW
  have hA : DataW.TrodAll enc Tryd.prog W 0 (fun _ => true) true Tryd.f7.params.toList args.toList ds p := hA0
  rw [Tryd.params7] at hA hval
  obtain ⟨v0, vs0, d0, ds0, p0, q0, hargs, rfl, rfl, h0, r0⟩ := trodAll_cons hA
  obtain ⟨v1, vs1, d1, ds1, p1, q1, rfl, rfl, rfl, h1, r1⟩ := trodAll_cons r0
  obtain ⟨rfl, rfl, rfl⟩ := trodAll_nil r1
  obtain rfl : args = #[v0, v1] := by cases args; simp_all
  obtain ⟨rfl, rfl⟩ := trodVars_none hV
  obtain ⟨a0, rfl, rfl, rfl, w0⟩ := open_string Tryd.underlying9 (hval 0 9 v0 rfl rfl) h0
  obtain ⟨a1, rfl, rfl, rfl, w1⟩ := open_string Tryd.underlying9 (hval 1 9 v1 rfl rfl) h1
  clear hA0 hval0
  rw [MakeChecks.laidMetH_plain _ _ _ (by kernel_rfl)] at hL
  have hPow : PowIs W := powIs_of_reads (Lib.laidMet.reads hL (.tail _ (.tail _ (.head _))))
  refine (walk a0 a1 W w0 w1 hPow).mono fun e W' ⟨he, bel⟩ => ?_
  subst he
  exact ⟨_, rfl, _, _, _, [], _, [], hW', trodAll_mk1 (shut_bool Tryd.underlying4 _), (trodAll_cons_mk (shut_string Tryd.underlying9 w0) (trodAll_cons_mk (shut_string Tryd.underlying9 w1) trodAll_mk0)), rfl, bel.frame _, fun h => by cases h⟩

theorem row_holds : Rows.FourEndsSaid :=
  OpenClaim.holds_of_wide 7 Tryd.f7 rfl rfl rfl rfl rfl rfl rfl ⟨rfl, rfl, rfl, rfl, rfl⟩ rfl rfl rfl rfl rfl (by kernel_rfl) Tryd.func7 (by kernel_rfl)
    (of_decide_eq_true (by kernel_rfl)) (by unfold Func.isWrapper; first | (rw [if_pos (by decide +kernel)]; kernel_rfl) | (rw [if_neg (by decide +kernel)]; exact ⟨rfl, rfl⟩))
    (fun os started H enc _ => lifted os started H enc)

theorem proved : Rows.FourEndsCardSaid :=
  Claim7.holds_tied_plain_at .later [] [.data, .data, .data, .data, .pinned] true (true, "8c916d87dac566d43f12e0c8e58974611998e2cc655645d3f4376929a58bf9d1") false
    row_holds (fun _ h => by cases h) (by kernel_rfl) (fun _ h => by cases h) fourEnds_row_tie rfl ⟨rfl, rfl⟩ (by kernel_rfl) rfl
    (fun f fn hf hfn => by
      obtain rfl : f = 7 := Option.some.inj ((show Tryd.prog.funcNamed "fascia/fascialaw12.FourEnds" = some 7 by kernel_rfl).symm.trans hf) |>.symm
      obtain rfl : fn = Tryd.f7 := (Option.some.inj (Tryd.func7.symm.trans hfn)).symm
      exact ⟨by kernel_rfl, fun j t ht => by
        rw [Tryd.params7] at ht
        have hm : t ∈ [9, 9] := by simpa using Array.mem_of_getElem? ht
        have hall : ([9, 9].all fun u => !Tryd.prog.wantsStandIn u) = true := by kernel_rfl
        exact (show Tryd.prog.wantsStandIn t = false by simpa using List.all_eq_true.1 hall t hm)⟩)
    (by kernel_rfl)
end Go.Proofs.YtpmdecdjlegcnaaDoor.fourEnds
