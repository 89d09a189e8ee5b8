/-
  For http, file and a scheme that is not special, and any two rows of code points (up to 150 each): a walk through some parts, the last of which is no dots, and then from there on through others, is one through both, with a separator between (fascialaw16.PathParts answers true). No condition.
-/
import Derived.Test.YtjkfppgekepbeaaDoorPthN
import Derived.Test.YtjkfppgekepbeaaDoorFrame
import Derived.Deep.CutRange
import Derived.Test.YtjkfppgekepbeaaDoorFrame
import Derived.Test.YtjkfppgekepbeaaDoorTie
import Derived.Test.YtjkfppgekepbeaaDoorCards
import Derived.Test.YtjkfppgekepbeaaDoorPthZ
import Derived.ProofKit
import Derived.Lay
import Derived.Stop.Joined
import Derived.SevenTiedAt
namespace Go.Proofs.YtjkfppgekepbeaaDoor.pathParts
set_option maxRecDepth 100000
open Go.ChangeShapes Go.WideShapes Go.ChangeAt Go.RowKit Utf Ut Hst Pth
open Go.ChangeMaps (open_string shut_string)

set_option maxRecDepth 100000 in
set_option maxHeartbeats 4000000 in
theorem walk (a : Int) (A : Option Addr) (n cap : Nat) (l : List Int) (A' : Option Addr) (n' cap' : Nat) (l' : List Int) (back : Bool) (w : World) (h0 : 0 ≤ a) (_h255 : a ≤ 255) (hin : InRow .i32 w A n cap l) (hin' : InRow .i32 w A' n' cap' l') : Calls Tryd.prog 5 #[.int .u8 a, .slice A n cap, .slice A' n' cap', .bool back] w fun e w' => e = .returned (.bool true) ∧ Below w.heap.size w w' := by
  obtain ⟨hlen, hcap, _, hrow, _⟩ := hin
  obtain ⟨hlen', hcap', _, hrow', _⟩ := hin'
  have HAW := Lib.hid (fun W => awake_any W)
  by_cases h150 : 150 < n
  · have hz : (150 : Int) < (n : Int) := by omega
    clear hrow hrow'
    go_enter Tryd.func5, Tryd.ntmps5
    go_wp2_with (first | (go_at_call 9; refine (HAW.out _).mono ?_; rintro e w1 ⟨rfl, hB1⟩) | fail)
    go_ret
    exact ⟨rfl, hB1⟩
  · have hz : ¬ (150 : Int) < (n : Int) := by omega
    by_cases h150' : 150 < n'
    · have hz' : (150 : Int) < (n' : Int) := by omega
      clear hrow hrow'
      go_enter Tryd.func5, Tryd.ntmps5
      go_wp2_with (first | (go_at_call 9; refine (HAW.out _).mono ?_; rintro e w1 ⟨rfl, hB1⟩) | fail)
      go_ret
      exact ⟨rfl, hB1⟩
    · have hz' : ¬ (150 : Int) < (n' : Int) := by omega
      have HN := Lib.hid hlen
      have HN' := Lib.hid hlen'
      have HR := Lib.hid hrow
      have HR' := Lib.hid hrow'
      obtain ⟨r, hr1, hr2, hr⟩ := mod3 a h0
      have HMD := Lib.hid (And.intro hr1 (And.intro hr2 hr))
      clear hrow hlen hrow' hlen' hr1 hr2 hr
      have HBR := Lib.hid (Below.refl w.heap.size w)
      go_enter Tryd.func5, Tryd.ntmps5
      go_upto_region 3 with fail
      go_cut [9, 10] from 27 to 31 (fun s9 s10 wx => ∃ S : ByteArray, s9 = .string S ∧ s10 = .int .i32 47 ∧ Nm S ∧ Hid (Below w.heap.size w wx))
      case first =>
        have hB0 := upA w (.cells #[.string ⟨#[104, 116, 116, 112]⟩, .string ⟨#[102, 105, 108, 101]⟩, .string ⟨#[120]⟩] 9)
        have HB0 := Lib.hid hB0
        clear hB0
        obtain ⟨hr1, hr2, hr⟩ := HMD.out
        rcases hr with rfl | rfl | rfl
        all_goals
          go_wp2_with fail
          go_meet
          first
            | exact ⟨_, rfl, rfl, nm_h, HB0⟩
            | exact ⟨_, rfl, rfl, nm_f, HB0⟩
            | exact ⟨_, rfl, rfl, nm_x, HB0⟩
      case rest =>
        obtain ⟨S, rfl, rfl, ⟨hss, hq⟩, HB0⟩ := hcut
        rename World => w0
        obtain ⟨sp, hsp⟩ : ∃ sp, spc S = sp := ⟨_, rfl⟩
        rw [hsp] at hq
        have HSP := Lib.hid hsp
        have HQ := Lib.hid hq
        clear hsp hq
        go_upto_region 4 with fail
        go_cut [36] from 32 to 35 (fun s36 wx => s36 = .bool (back && sp) ∧ wx = w0)
        case first =>
          cases back <;> cases sp
          all_goals
            have hq := HQ.out
            simp only [Bool.not_true, Bool.not_false] at hq
            go_wp2_with fail
            go_meet
            exact ⟨rfl, rfl⟩
        case rest =>
          obtain ⟨rfl, hwx⟩ := hcut
          subst hwx
          rename World => w0
          go_upto_if 36 with (fail)
          go_cut [10] (fun s10 wx => ∃ z : Int, s10 = .int .i32 z ∧ Hid (sep sp z = true) ∧ wx = w0)
          case first =>
            cases back <;> cases sp
            all_goals
              go_wp2_with fail
              go_meet
              exact ⟨_, rfl, Lib.hid (by decide), rfl⟩
          case rest =>
            obtain ⟨z, rfl, HZ, hwx⟩ := hcut
            subst hwx
            rename World => w0
            go_wp2_with fail
            go_loopg [11, 39] n (fun g s11 s39 wr => ∃ f i : Nat, s11 = .int .i64 (f : Int) ∧ s39 = .int .i64 (i : Int) ∧ n - i = g ∧ i ≤ n ∧ f ≤ i ∧ Hid (At sp l f) ∧ Hid (∀ r ∈ cutL l f i, sep sp r = false) ∧ wr = w0)
            case atStart => exact ⟨0, 0, rfl, rfl, rfl, Nat.zero_le _, Nat.le_refl _, Lib.hid (.inl rfl), Lib.hid (fun r hr => by simp [cutL] at hr), rfl⟩
            case round =>
              obtain ⟨f, i, rfl, rfl, rfl, hin, hfi, HAT, HNO, rfl⟩ := hrel
              rename World => w0
              by_cases hlt : i < n
              · have hltz : (i : Int) < (n : Int) := by omega
                have hiT : i < l.length := by rw [HN.out]; exact hlt
                obtain ⟨b, o, rfl, hb, hcc⟩ := (HR.out.below HB0.out).at_ (by simp; omega)
                have c0 : w0.cell? ⟨b, o + i, none⟩ = some (.int .i32 l[i]) := by rw [hcc i (by simp; omega), cl_get _ _ _ hiT]
                have HSN := Lib.hid (cut_snoc hfi hiT)
                have HNX := Lib.hid (At.next (sp := sp) hiT)
                obtain ⟨r, hr⟩ : ∃ r, l[i] = r := ⟨_, rfl⟩
                rw [hr] at c0 HSN HNX
                clear hr hcc
                cases hs : sep sp r with
                | false =>
                  have HNO2 : Hid (∀ q ∈ cutL l f (i + 1), sep sp q = false) := Lib.hid (by
                    rw [HSN.out]
                    intro q hq
                    rcases List.mem_append.1 hq with hq | hq
                    · exact HNO.out q hq
                    · rw [List.mem_singleton] at hq
                      rw [hq]
                      exact hs)
                  obtain ⟨e1, e2 | ⟨e2, e3⟩⟩ := sep_no' hs
                  · clear hs
                    go_wp2_with fail
                    go_roundg (n - (i + 1))
                    case measure => omega
                    case rel => exact ⟨f, i + 1, rfl, by go_num, rfl, by omega, by omega, HAT, HNO2, rfl⟩
                  · have hq := HQ.out
                    rw [e3] at hq
                    simp only [Bool.not_false] at hq
                    clear hs e3
                    go_wp2_with fail
                    go_roundg (n - (i + 1))
                    case measure => omega
                    case rel => exact ⟨f, i + 1, rfl, by go_num, rfl, by omega, by omega, HAT, HNO2, rfl⟩
                | true =>
                  have HN0 : Hid (∀ q ∈ cutL l (i + 1) (i + 1), sep sp q = false) := Lib.hid (fun q hq => by simp [cutL] at hq)
                  have HA2 := Lib.hid (HNX.out hs)
                  rcases sep_yes' hs with e1 | ⟨e1, e2, e3⟩
                  · clear hs
                    go_wp2_with fail
                    go_roundg (n - (i + 1))
                    case measure => omega
                    case rel => exact ⟨i + 1, i + 1, by go_num, by go_num, rfl, by omega, Nat.le_refl _, HA2, HN0, rfl⟩
                  · have hq := HQ.out
                    rw [e3] at hq
                    simp only [Bool.not_true] at hq
                    clear hs e3
                    go_wp2_with fail
                    go_roundg (n - (i + 1))
                    case measure => omega
                    case rel => exact ⟨i + 1, i + 1, by go_num, by go_num, rfl, by omega, Nat.le_refl _, HA2, HN0, rfl⟩
              · obtain rfl : i = n := by omega
                have hltz : ¬ ((i : Nat) : Int) < (i : Int) := by omega
                have hsl := fun W => sl_l A i cap f hfi W
                have hrx := row_cut (HR.out.below HB0.out) hfi (show i ≤ l.length by rw [HN.out]; exact Nat.le_refl _) (show l.length ≤ cap by rw [HN.out]; exact hcap)
                have hce : cutL l f i = l.drop f := by
                  unfold cutL
                  rw [List.take_of_length_le (by rw [List.length_drop, HN.out]; omega)]
                rw [hce] at hrx
                have HX : Hid (lst sp l = l.drop f) := Lib.hid (lst_of (by rw [HN.out]; exact hfi) HAT.out (by rw [HN.out]; exact HNO.out))
                have hxl : (l.drop f).length = i - f := by rw [List.length_drop, HN.out]
                obtain ⟨X, hXX⟩ : ∃ X, l.drop f = X := ⟨_, rfl⟩
                rw [hXX] at hrx HX hxl
                obtain ⟨AX, hAX⟩ : ∃ AX, subA A f cap = AX := ⟨_, rfl⟩
                rw [hAX] at hsl hrx
                have HE := Lib.hid (Encode5_any X AX (i - f) (cap - f) w0 hxl (by omega) (hrx.mono HB0.out.size))
                unfold EncP at HE
                rw [show strOfNums (pe X) = sg X from rfl] at HE
                have hsz := sg_size X
                have HD := Lib.hid (fun W => Double_asc (s := sg X) (by omega) (sg_asc X) W)
                have HG := Lib.hid (fun W => Single_asc (s := sg X) (by omega) (sg_asc X) W)
                have HFIN := Lib.hid (fun (h1 : dbl (sg X) = false) (h2 : sgl (sg X) = false) => wlk_both (fl := fil S) (b := l') HZ.out l [] (by rw [HX.out]; exact h1) (by rw [HX.out]; exact h2))
                obtain ⟨Y, hY⟩ : ∃ Y, sg X = Y := ⟨_, rfl⟩
                rw [hY] at HE HD HG HFIN
                obtain ⟨d, hd⟩ : ∃ d, dbl Y = d := ⟨_, rfl⟩
                rw [hd] at HD HFIN
                obtain ⟨q, hqq⟩ : ∃ q, sgl Y = q := ⟨_, rfl⟩
                rw [hqq] at HG HFIN
                have HAT2 := HAT
                clear hce hXX hAX hsz hY hd hqq HAT HNO HAT2 hxl hrx
                cases q with
                | true =>
                  go_wp2_with (first
                    | (go_at_call 25; refine HE.out.mono ?_; rintro e w1 ⟨rfl, hB1⟩)
                    | (go_at_call 10; refine (HG.out _).mono ?_; rintro e w2 ⟨rfl, hB2⟩)
                    | (go_at_call 9; refine (HAW.out _).mono ?_; rintro e w3 ⟨rfl, hB3⟩)
                    | fail)
                  go_ret
                  exact ⟨rfl, upB (upB (upB HB0.out hB1) hB2) hB3⟩
                | false =>
                  cases d with
                  | true =>
                    go_wp2_with (first
                      | (go_at_call 25; refine HE.out.mono ?_; rintro e w1 ⟨rfl, hB1⟩)
                      | (go_at_call 10; refine (HG.out _).mono ?_; rintro e w2 ⟨rfl, hB2⟩)
                      | (go_at_call 12; refine (HD.out _).mono ?_; rintro e w4 ⟨rfl, hB4⟩)
                      | (go_at_call 9; refine (HAW.out _).mono ?_; rintro e w3 ⟨rfl, hB3⟩)
                      | fail)
                    go_ret
                    exact ⟨rfl, upB (upB (upB (upB HB0.out hB1) hB2) hB4) hB3⟩
                  | false =>
                    have HF := Lib.hid (HFIN.out rfl rfl)
                    clear HFIN
                    have hl1 := wlk_len sp (fil S) [] l
                    have hl2 := wlk_len sp (fil S) (wlk sp (fil S) [] l) l'
                    have HN2 := HN.out
                    have HN3 := HN'.out
                    have H1 := Lib.hid (fun W (h : Below w.heap.size w W) => Walk_any S (by unfold maxLen; omega) [] none 0 0 l A i cap W rfl (by omega) HN.out hcap (by omega) .empty ((HR.out.below h).mono h.size))
                    have H2 := Lib.hid (fun (P : List ByteArray) m A1 c1 W (hm : P.length = m) (hm1 : m ≤ 1000) (h : Below w.heap.size w W) (hr : Row W W.heap.size A1 (sx P)) => Walk_any S (by unfold maxLen; omega) P A1 m c1 l' A' n' cap' W hm (by omega) HN'.out hcap' (by omega) hr ((HR'.out.below h).mono h.size))
                    have H3 := Lib.hid (fun (T : List Int) A1 k c1 W (hk : T.length = k) (hc : k ≤ c1) (hk1 : k ≤ 1000) (hr : Row W W.heap.size A1 (cl .i32 T)) => Walk_any S (by unfold maxLen; omega) [] none 0 0 T A1 k c1 W rfl (by omega) hk hc (by omega) .empty hr)
                    rw [HSP.out] at H1 H2 H3
                    obtain ⟨fl, hfl⟩ : ∃ fl, fil S = fl := ⟨_, rfl⟩
                    rw [hfl] at HF H1 H2 H3 hl1 hl2
                    obtain ⟨P1, hP1⟩ : ∃ P1, wlk sp fl [] l = P1 := ⟨_, rfl⟩
                    rw [hP1] at HF H1 hl1 hl2
                    obtain ⟨P2, hP2⟩ : ∃ P2, wlk sp fl P1 l' = P2 := ⟨_, rfl⟩
                    rw [hP2] at HF hl2
                    have H22 := Lib.hid (H2.out P1)
                    rw [hP2] at H22
                    obtain ⟨m1, hm1⟩ : ∃ m, P1.length = m := ⟨_, rfl⟩
                    obtain ⟨m2, hm2⟩ : ∃ m, P2.length = m := ⟨_, rfl⟩
                    have H33 := Lib.hid (H3.out ([] ++ l ++ [z] ++ l'))
                    rw [show wlk sp fl [] ([] ++ l ++ [z] ++ l') = P2 from by rw [← HF.out]; simp] at H33
                    unfold MadeTexts at H1 H22 H33
                    rw [hm1] at H1 hl1 hl2
                    rw [hm2] at H22 H33 hl2
                    simp only [List.length_nil, Nat.zero_add, HN2, HN3] at hl1 hl2
                    have HM1 := Lib.hid hm1
                    have HM2 := Lib.hid hm2
                    have HTX := Lib.hid (fun B1 c1 d1 B2 W (h1 : Row W W.heap.size B1 (sx P2)) (h2 : Row W W.heap.size B2 (sx P2)) => Texts_any P2 P2 B1 B2 m2 m2 c1 d1 W HM2.out HM2.out (by omega) (by omega) h1 h2)
                    rw [decide_eq_true rfl] at HTX
                    have hb1 : m1 ≤ 1000 := by omega
                    have hbt : i + 1 + n' ≤ 1000 := by omega
                    have HTL : Hid (([] ++ l ++ [z] ++ l').length = i + 1 + n') := Lib.hid (by simp [HN2, HN3]; omega)
                    clear hfl hP1 hP2 hm1 hm2 HN2 HN3 H2 H3
                    go_upto_region 18 with (first
                      | (go_at_call 25; refine HE.out.mono ?_; rintro e w1 ⟨rfl, hB1⟩)
                      | (go_at_call 10; refine (HG.out _).mono ?_; rintro e w2 ⟨rfl, hB2⟩)
                      | (go_at_call 12; refine (HD.out _).mono ?_; rintro e w4 ⟨rfl, hB4⟩)
                      | fail)
                    have hB04 := upB (upB (upB HB0.out hB1) hB2) hB4
                    have hO0 := own_made (w := w4) (t := 21)
                    have hs4 := upA w4 (.cells #[] 21)
                    have HB04 := Lib.hid hB04
                    have HRL := Lib.hid ((HR.out.below (upB hB04 hs4)).mono (upB hB04 hs4).size)
                    have HO0 := Lib.hid hO0
                    have HS4 := Lib.hid hs4
                    clear hB1 hB2 hB4 hB04 hO0 hs4
                    go_upto_region 19 with (first
                      | (at_builtin; refine wpList_appN w4.heap.size _ rfl _ _ rfl (.slice (some ⟨w4.heap.size, 0, none⟩) 0 0) 0 i [] l rfl HO0.out HS4.out.size A i cap rfl HN.out HRL.out (by omega) (by omega) ?_; intro A5 c5 w5 hO5 hB5; have hB45 := HS4.out.trans hB5)
                      | (at_builtin; refine wpList_appN w4.heap.size _ rfl _ _ rfl (.slice A5 i c5) i (i + 1) ([] ++ l) [z] rfl (hO5.alloc _) (by rw [World.size_alloc]; have := hB45.size; omega) _ 1 1 rfl rfl (by rw [World.size_alloc]; exact row_new _ _ 21 [.int .i32 z] rfl) rfl (by omega) ?_; intro A6 c6 w6 hO6 hB6; have hB46 := (hB45.alloc hB45.size _).trans hB6)
                      | (at_builtin; refine wpList_appN w4.heap.size _ rfl _ _ rfl (.slice A6 (i + 1) c6) (i + 1) (i + 1 + n') ([] ++ l ++ [z]) l' rfl hO6 hB46.size A' n' cap' rfl HN'.out ((HR'.out.below (upB HB04.out hB46)).mono (upB HB04.out hB46).size) rfl (by omega) ?_; intro A7 c7 w7 hO7 hB7; have hB47 := hB46.trans hB7)
                      | fail)
                    have hB07 := upB HB04.out hB47
                    have HO7 := Lib.hid hO7
                    have hc7 : i + 1 + n' ≤ c7 := by
                      obtain ⟨A2, c2, hv, hc, _⟩ := own_form hO7
                      cases hv
                      exact hc
                    clear hO5 hB5 hB45 hO6 hB6 hB46 hO7 hB7 hB47
                    go_wp2_with (first
                      | (go_at_call 21; ((with_reducible refine (H1.out _ hB07).mono ?_); rintro e w8 ⟨A8, c8, rfl, hO8, hB8⟩; have hB08 := upB hB07 hB8))
                      | (go_at_call 21; ((with_reducible refine (H22.out m1 A8 c8 w8 HM1.out hb1 hB08 (Row.of_own hO8)).mono ?_); rintro e w9 ⟨A9, c9, rfl, hO9, hB9⟩; have hB79 := upB hB8 hB9; have hB09 := upB hB07 hB79))
                      | (go_at_call 21; ((with_reducible refine (H33.out A7 (i + 1 + n') c7 w9 HTL.out hc7 hbt (((Row.of_own HO7.out).below hB79).mono hB79.size)).mono ?_); rintro e w10 ⟨A10, c10, rfl, hO10, hB10⟩; have hB010 := upB hB09 hB10))
                      | (go_at_call 18; refine (HTX.out _ _ _ _ _ (Row.of_own hO10) (((Row.of_own hO9).below hB10).mono hB10.size)).mono ?_; rintro e w11 ⟨rfl, hB11⟩; have hB011 := upB hB010 hB11)
                      | (go_at_call 9; refine (HAW.out _).mono ?_; rintro e w12 ⟨rfl, hB12⟩)
                      | fail)
                    go_ret
                    exact ⟨rfl, upB hB011 hB12⟩

/-! From the walk to the given statement. -/
set_option linter.unusedVariables false
theorem own : ownKnob Tryd.prog.godebug = none := by kernel_rfl
theorem laidOut : laidOutB Tryd.prog = true := by kernel_rfl
set_option maxRecDepth 100000 in
theorem lifted (os : Os) (started : os.Started) (H : Type) (enc : TypeId × Value → H) :
    ReturnsInHanded {} Tryd.checked os 5 .any (fun w args => (Rows.pathPartsSpec.pre enc Tryd.prog Tryd.f5 [] false w args ∧ laidMetH Tryd.prog Rows.pathPartsRow.laid w) ∧ sizedMet enc Tryd.prog Tryd.f5 (OpenSpec.ofChange Rows.pathPartsSpec) false w args)
      (Rows.pathPartsSpec.post enc Tryd.prog Tryd.f5 false true false false) := by
  refine returnsIn_and_shaped (C := Tryd.checked) (X := fun w _ => laidMetH Tryd.prog Rows.pathPartsRow.laid w) (fun _ _ _ hh h => h.of_heap hh) own started (by kernel_rfl) Tryd.func5
    (ChangeSpec.witness_shaped (enc := enc) (C := Tryd.checked) (os := os) (X := fun w _ => laidMetH Tryd.prog Rows.pathPartsRow.laid w) false (World.laidAll Tryd.prog os Rows.pathPartsRow.laid) #[.int .u8 0, .slice none 0 0, .slice none 0 0, .bool false] 8 (World.laidAll_os _ _ _)
      (World.shaped_of_ZipB (by kernel_rfl) (by kernel_rfl)) (by kernel_rfl) (by kernel_rfl) (by kernel_rfl)
      (by rw [MakeChecks.laidMetH_plain _ _ _ (by kernel_rfl)]; exact laidMet_laidAll _ (by kernel_rfl) (by kernel_rfl))) ?_
  intro W base args ds gs before hval0 hW _ _ hL hsh _
  have hval : ∀ (j : Nat) t v, Tryd.f5.params[j]? = some t → args[j]? = some v → Value.okWide Tryd.prog W .any base t v := hval0
  have hW' := hW
  obtain ⟨p, q, hA0, hV, rfl, _, _⟩ := hW
  have hA : DataW.TrodAll enc Tryd.prog W 0 (fun _ => true) true Tryd.f5.params.toList args.toList ds p := hA0
  rw [Tryd.params5] at hA hval
  obtain ⟨v0, vs0, d0, ds0, p0, q0, hargs, rfl, rfl, h0, r0⟩ := trodAll_cons hA
  obtain ⟨v1, vs1, d1, ds1, p1, q1, rfl, rfl, rfl, h1, r1⟩ := trodAll_cons r0
  obtain ⟨v2, vs2, d2, ds2, p2, q2, rfl, rfl, rfl, h2, r2⟩ := trodAll_cons r1
  obtain ⟨v3, vs3, d3, ds3, p3, q3, rfl, rfl, rfl, h3, r3⟩ := trodAll_cons r2
  obtain ⟨rfl, rfl, rfl⟩ := trodAll_nil r3
  obtain rfl : args = #[v0, v1, v2, v3] := by cases args; simp_all
  obtain ⟨rfl, rfl⟩ := trodVars_none hV
  obtain ⟨a0, rfl, rfl, rfl, w0⟩ := open_int Tryd.underlying5 (hval 0 5 v0 rfl rfl) h0
  have b0 : 0 ≤ a0 ∧ a0 ≤ 255 := by simpa [Lit.wf, IntKind.min, IntKind.max, IntKind.signed, IntKind.bits] using w0
  obtain ⟨a1, len1, cap1, rfl⟩ := okWide_slice Tryd.underlying22 (hval 1 22 v1 rfl rfl)
  have k1 := h1
  have lt1 : ∀ x ∈ p1, x.block < W.heap.size := by obtain ⟨m, hm⟩ := k1; exact DataW.trod_lt m _ _ _ hm
  obtain ⟨z1, w1⟩ := in_row Tryd.underlying22 Tryd.underlying21 (by kernel_rfl) h1
  obtain ⟨a2, len2, cap2, rfl⟩ := okWide_slice Tryd.underlying22 (hval 2 22 v2 rfl rfl)
  have k2 := h2
  have lt2 : ∀ x ∈ p2, x.block < W.heap.size := by obtain ⟨m, hm⟩ := k2; exact DataW.trod_lt m _ _ _ hm
  obtain ⟨z2, w2⟩ := in_row Tryd.underlying22 Tryd.underlying21 (by kernel_rfl) h2
  obtain ⟨a3, rfl, rfl, rfl⟩ := open_bool Tryd.underlying4 (hval 3 4 v3 rfl rfl) h3
  clear hA0 hval0
  refine (walk a0 a1 len1 cap1 z1 a2 len2 cap2 z2 a3 W b0.1 b0.2 w1 w2).mono fun e W' ⟨he, bel⟩ => ?_
  subst he
  exact ⟨_, rfl, _, _, _, [], _, [], hW', trodAll_mk1 (shut_bool Tryd.underlying4 _), (trodAll_cons_mk (shut_int Tryd.underlying5 w0) (trodAll_cons_mk (Below.trod laidOut (by kernel_rfl) (of_decide_eq_true (by kernel_rfl)) k1 bel lt1) (trodAll_cons_mk (Below.trod laidOut (by kernel_rfl) (of_decide_eq_true (by kernel_rfl)) k2 bel lt2) (trodAll_cons_mk (shut_bool Tryd.underlying4 a3) trodAll_mk0)))), rfl, bel.frame _, fun h => by cases h⟩

theorem row_holds : Rows.PathPartsSaid :=
  OpenClaim.holds_of_wide 5 Tryd.f5 rfl rfl rfl rfl rfl rfl rfl ⟨rfl, rfl, rfl, rfl, rfl⟩ rfl rfl rfl rfl rfl (by kernel_rfl) Tryd.func5 (by kernel_rfl)
    (of_decide_eq_true (by kernel_rfl)) (by unfold Func.isWrapper; first | (rw [if_pos (by decide +kernel)]; kernel_rfl) | (rw [if_neg (by decide +kernel)]; exact ⟨rfl, rfl⟩))
    (fun os started H enc _ => lifted os started H enc)

theorem proved : Rows.PathPartsCardSaid :=
  Claim7.holds_tied_plain_at .later [] [.data, .pinned, .pinned] true (true, "096174d399074f8f904a42b2286baa8b454bcc68437828faff9a89272ecf41e2") false
    row_holds (fun _ h => by cases h) (by kernel_rfl) (fun _ h => by cases h) pathParts_row_tie rfl ⟨rfl, rfl⟩ (by kernel_rfl) rfl
    (fun f fn hf hfn => by
      obtain rfl : f = 5 := Option.some.inj ((show Tryd.prog.funcNamed "fascia/fascialaw16.PathParts" = some 5 by kernel_rfl).symm.trans hf) |>.symm
      obtain rfl : fn = Tryd.f5 := (Option.some.inj (Tryd.func5.symm.trans hfn)).symm
      exact ⟨by kernel_rfl, fun j t ht => by
        rw [Tryd.params5] at ht
        have hm : t ∈ [5, 22, 22, 4] := by simpa using Array.mem_of_getElem? ht
        have hall : ([5, 22, 22, 4].all fun u => !Tryd.prog.wantsStandIn u) = true := by kernel_rfl
        exact (show Tryd.prog.wantsStandIn t = false by simpa using List.all_eq_true.1 hall t hm)⟩)
    (by kernel_rfl)
end Go.Proofs.YtjkfppgekepbeaaDoor.pathParts
