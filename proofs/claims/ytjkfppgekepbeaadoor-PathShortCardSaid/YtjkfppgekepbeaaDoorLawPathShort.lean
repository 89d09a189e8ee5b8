/-
  For any path (up to 60 segments of up to 100 bytes) and any scheme (up to 20 bytes): shortened, a path is one segment less, if it has some, and is no file's plain drive alone; and what was handed in stays (fascialaw16.PathShort answers true). No condition.
-/
import Derived.Test.YtjkfppgekepbeaaDoorPthO
import Derived.Test.YtjkfppgekepbeaaDoorFrame
import Derived.Deep.CutRange
import Derived.Test.YtjkfppgekepbeaaDoorFrame
import Derived.Test.YtjkfppgekepbeaaDoorTie
import Derived.Test.YtjkfppgekepbeaaDoorCards
import Derived.Test.YtjkfppgekepbeaaDoorPthZ
import Derived.ProofKit
import Derived.Lay
import Derived.Stop.Joined
import Derived.SevenTiedAt
namespace Go.Proofs.YtjkfppgekepbeaaDoor.pathShort
set_option maxRecDepth 100000
open Go.ChangeShapes Go.WideShapes Go.ChangeAt Go.RowKit Utf Ut Hst Pth
open Go.ChangeMaps (open_string shut_string)

theorem underS : Tryd.prog.underlying 23 = some (.slice (Tryd.prog.elem 23)) := by simp [Program.elem, Tryd.underlying23]
theorem elemS : Tryd.prog.elem 23 = 9 := by simp [Program.elem, Tryd.underlying23]
theorem sizeS (W : World) : (sizeOf 9).run Tryd.prog W = .ok 1 W := by kernel_rfl
theorem sl_hS (A : Option Addr) (n c k : Nat) (hk : k ≤ c) (W : World) : (Instr.sliceAt 23 (.slice A n c) none (some (.int .i64 (k : Int))) none).run Tryd.prog W = .ok (.slice A k c) W := by
  rw [run_sliceAt_slice W 23 _ _ _ _ underS, run_slice_h W 23 _ n c underS .i64 (k : Int) (by omega) (by omega), elemS, sizeS]
  cases A <;> simp [Result.andThen, sliced, Addr.add]
theorem shr_len (fl : Bool) (ys : List ByteArray) (n : Nat) (h : ys.length = n) : (shr fl ys).length = if (fl && soleD ys) = true then n else n - 1 := by
  unfold shr
  cases ys with
  | nil =>
    have : n = 0 := h.symm
    subst this
    simp
  | cons y t =>
    rw [show (y :: t).isEmpty = false from rfl, Bool.false_or]
    split
    · exact h
    · rw [List.length_dropLast, h]
theorem row_take {w : World} {B : Nat} {A : Option Addr} {xs : List Value} (h : Row w B A xs) (k : Nat) : Row w B A (xs.take k) := by
  rcases h with h | ⟨b, o, hA, hb, hc⟩
  · subst h; exact .inl (by simp)
  · refine .inr ⟨b, o, hA, hb, fun i hi => ?_⟩
    rw [List.length_take] at hi
    rw [hc i (by omega), List.getElem?_take_of_lt (by omega)]
/-- the row that has been written so far -/
def wrt (P : List ByteArray) (i : Nat) : List ByteArray := (P.take i).map (fun s => s ++ ⟨#[120]⟩) ++ P.drop i
theorem wrt_len (P : List ByteArray) (i : Nat) : (wrt P i).length = P.length := by
  unfold wrt
  rw [List.length_append, List.length_map, List.length_take, List.length_drop]
  omega
theorem wrt_zero (P : List ByteArray) : wrt P 0 = P := by simp [wrt]
theorem wrt_at {P : List ByteArray} {i : Nat} (h : i < P.length) : (wrt P i)[i]? = some P[i] := by
  unfold wrt
  rw [List.getElem?_append_right (by rw [List.length_map, List.length_take]; omega), List.length_map, List.length_take, List.getElem?_drop]
  rw [show i + (i - min i P.length) = i by omega]
  exact List.getElem?_eq_getElem h
theorem wrt_next {P : List ByteArray} {i : Nat} (h : i < P.length) : sx (wrt P (i + 1)) = (sx (wrt P i)).set i (.string (P[i] ++ ⟨#[120]⟩)) := by
  unfold sx
  rw [← List.map_set]
  congr 1
  unfold wrt
  have e : P.drop i = P[i] :: P.drop (i + 1) := List.drop_eq_getElem_cons h
  rw [List.take_succ_eq_append_getElem h, List.map_append, List.set_append_right _ _ (by rw [List.length_map, List.length_take]; omega), List.length_map, List.length_take, show i - min i P.length = 0 by omega, e, List.set_cons_zero]
  simp
theorem own_some {w : World} {B : Nat} {e : TypeId} {size n c : Nat} {A : Option Addr} {xs : List Value} (h : w.ownsRow B e size (.slice A n c) n xs) (h0 : 0 < n) : ∃ g, A = some ⟨g, 0, none⟩ ∧ B ≤ g ∧ g < w.heap.size := by
  rcases h.2 with ⟨_, hz⟩ | ⟨g, cap, cur, hv, hg, hh, _⟩
  · omega
  · injection hv with h1 _ _
    exact ⟨g, h1, hg, (Array.getElem?_eq_some_iff.1 hh).1⟩
set_option maxRecDepth 100000 in
set_option maxHeartbeats 8000000 in
theorem walk (A : Option Addr) (n cap : Nat) (ys : List ByteArray) (nm : ByteArray) (w : World) (hin : InTexts w A n cap ys) (_hnm : nm.size ≤ maxLen) : Calls Tryd.prog 6 #[.slice A n cap, .string nm] w fun e w' => e = .returned (.bool true) ∧ Below w.heap.size w w' := by
  obtain ⟨hlen, hcap, hcm, hrow, _⟩ := hin
  have HAW := Lib.hid (fun W => awake_any W)
  have HFE := Lib.hid (Few_any ys A n cap w hlen (by omega) hrow)
  cases hf : few ys with
  | false =>
    rw [hf] at HFE
    clear hrow hf
    go_enter Tryd.func6, Tryd.ntmps6
    go_wp2_with (first
      | (go_at_call 8; refine HFE.out.mono ?_; rintro e w1 ⟨rfl, rfl⟩)
      | (go_at_call 9; refine (HAW.out _).mono ?_; rintro e w2 ⟨rfl, hB2⟩)
      | fail)
    go_ret
    exact ⟨rfl, hB2⟩
  | true =>
    rw [hf] at HFE
    obtain ⟨hsz, h60⟩ := few_all hf
    by_cases h20 : 20 < nm.size
    · have hz : (20 : Int) < (nm.size : Int) := by omega
      clear hrow hf hsz
      go_enter Tryd.func6, Tryd.ntmps6
      go_wp2_with (first
        | (go_at_call 8; refine HFE.out.mono ?_; rintro e w1 ⟨rfl, rfl⟩)
        | (go_at_call 9; refine (HAW.out _).mono ?_; rintro e w2 ⟨rfl, hB2⟩)
        | fail)
      go_ret
      exact ⟨rfl, hB2⟩
    · have hz : ¬ (20 : Int) < (nm.size : Int) := by omega
      have HN := Lib.hid hlen
      have HR := Lib.hid hrow
      have HSZ := Lib.hid hsz
      have hn60 : n ≤ 60 := by omega
      have hO0 := own_made (w := w) (t := 9)
      have hB0 := upA w (.cells #[] 9)
      have HO0 := Lib.hid hO0
      have HB0 := Lib.hid hB0
      have HR0 := Lib.hid ((hrow.below hB0).mono hB0.size)
      clear hlen hrow hsz hf h60 hO0 hB0
      go_enter Tryd.func6, Tryd.ntmps6
      go_upto_region 4 with (first
        | (go_at_call 8; refine HFE.out.mono ?_; rintro e w1 ⟨rfl, rfl⟩)
        | (at_builtin; refine wpList_appR w.heap.size _ rfl _ _ rfl (.slice (some ⟨w.heap.size, 0, none⟩) 0 0) 0 n [] ys rfl HO0.out HB0.out.size A n cap rfl HN.out HR0.out (by omega) (by omega) ?_; intro A1 c1 w1 hO1 hB1)
        | fail)
      have HB1 := Lib.hid (HB0.out.trans hB1)
      have HO1 := Lib.hid hO1
      clear hO1 hB1
      go_cut [6] from 22 to 45 (fun s6 wx => s6 = .bool (soleD ys) ∧ Hid (Below w1.heap.size w1 wx))
      case first =>
        by_cases h1 : n = 1
        · subst h1
          obtain ⟨x, rfl⟩ := List.length_eq_one_iff.1 HN.out
          obtain ⟨b, o, rfl, hb, hcc⟩ := (HR.out.below HB1.out).at_ (by simp)
          have c0 : w1.cell? ⟨b, o, none⟩ = some (.string x) := hcc 0 (by simp)
          have HSD : Hid (soleD [x] = nmd x) := Lib.hid rfl
          have hx100 := HSZ.out x (List.mem_cons_self ..)
          clear hcc
          by_cases h2 : x.size = 2
          · have hz2 : ((x.size : Int) == 2) = true := by rw [h2]; rfl
            have h11 : 1 < x.size := by omega
            obtain ⟨W2, c2, hcv, hc2, hr2, hB2⟩ := conv_all x w1 (by omega)
            have HD := Lib.hid (Drive_any (rn x) _ (rn x).length c2 W2 rfl hr2)
            have c2' : W2.cell? ⟨b, o, none⟩ = some (.string x) := (hB2.cell (p := ⟨b, o, none⟩) (Nat.lt_of_lt_of_le hb HB1.out.size)).trans c0
            have HB2 := Lib.hid hB2
            have HDV := Lib.hid (fun h => drv_two h2 h)
            have HNV := Lib.hid (fun h => nmd_two h2 h)
            obtain ⟨k, hk⟩ : ∃ k, (rn x).length = k := ⟨_, rfl⟩
            rw [hk] at HD hcv
            obtain ⟨y, hy⟩ : ∃ y, x[1]'h11 = y := ⟨_, rfl⟩
            rw [hy] at HDV HNV
            obtain ⟨v, hv⟩ : ∃ v, drv (rn x) = v := ⟨_, rfl⟩
            rw [hv] at HD HDV
            clear hk hr2 hB2 hc2 hv h2
            by_cases h58 : y = 58
            · have ez : (((y.toNat : Nat) : Int) == 58) = true := by rw [h58]; rfl
              have HE : Hid (v = nmd x) := Lib.hid (HDV.out h58)
              clear h58 HDV HNV
              cases v with
              | true =>
                go_wp2_with (first | (go_at_call 14; refine HD.out.mono ?_; rintro e w3 ⟨rfl, rfl⟩) | fail)
                go_meet
                exact ⟨by rw [HSD.out, ← HE.out], HB2⟩
              | false =>
                go_wp2_with (first | (go_at_call 14; refine HD.out.mono ?_; rintro e w3 ⟨rfl, rfl⟩) | fail)
                go_meet
                exact ⟨by rw [HSD.out, ← HE.out], HB2⟩
            · have ez : (((y.toNat : Nat) : Int) == 58) = false := by
                rw [beq_eq_false_iff_ne]
                intro h
                exact h58 (UInt8.toNat_inj.1 (by show y.toNat = 58; omega))
              have HE : Hid (nmd x = false) := Lib.hid (HNV.out h58)
              clear h58 HDV HNV
              cases v with
              | true =>
                go_wp2_with (first | (go_at_call 14; refine HD.out.mono ?_; rintro e w3 ⟨rfl, rfl⟩) | fail)
                go_meet
                exact ⟨by rw [HSD.out, HE.out], HB2⟩
              | false =>
                go_wp2_with (first | (go_at_call 14; refine HD.out.mono ?_; rintro e w3 ⟨rfl, rfl⟩) | fail)
                go_meet
                exact ⟨by rw [HSD.out, HE.out], HB2⟩
          · have hz2 : ((x.size : Int) == 2) = false := by rw [beq_eq_false_iff_ne]; omega
            have HE : Hid (nmd x = false) := Lib.hid (nmL_len (by
              have : (dl x).length = x.size := by simp [dl]
              omega))
            clear h2
            go_wp2_with fail
            go_meet
            exact ⟨by rw [HSD.out, HE.out], Lib.hid (Below.refl _ _)⟩
        · have hz1 : ((n : Int) == 1) = false := by rw [beq_eq_false_iff_ne]; omega
          have HE : Hid (soleD ys = false) := Lib.hid (sole_one (by rw [HN.out]; exact h1))
          clear h1
          go_wp2_with fail
          go_meet
          exact ⟨by rw [HE.out], Lib.hid (Below.refl _ _)⟩
      case rest =>
        obtain ⟨rfl, HB2⟩ := hcut
        rename World => w2
        have hb02 := upB HB1.out HB2.out
        have HSH := Lib.hid (Shorten_any nm ys A n cap w2 HN.out hcap (by omega) ((HR.out.below hb02).mono hb02.size))
        have HLN := Lib.hid (shr_len (fil nm) ys n HN.out)
        have HTK := Lib.hid (shr_take (fil nm) ys)
        have hfil := fil_beq nm
        unfold MadeTexts at HSH
        obtain ⟨P, hP⟩ : ∃ P, shr (fil nm) ys = P := ⟨_, rfl⟩
        rw [hP] at HSH HLN HTK
        obtain ⟨m, hm⟩ : ∃ m, P.length = m := ⟨_, rfl⟩
        rw [hm] at HSH HLN HTK
        obtain ⟨fl, hfl⟩ : ∃ fl, fil nm = fl := ⟨_, rfl⟩
        rw [hfl] at HLN hfil
        obtain ⟨sd, hsd⟩ : ∃ sd, soleD ys = sd := ⟨_, rfl⟩
        rw [hsd] at HLN ⊢
        have HM := Lib.hid hm
        have HB02 := Lib.hid hb02
        have hmx : max ((n : Int) - 1) 0 = ((n - 1 : Nat) : Int) := by omega
        have hsl := fun W => sl_hS A n cap (n - 1) (by omega) W
        clear hP hm hfl hsd hb02
        go_upto_region 7 with (first
          | (go_at_call 19; refine HSH.out.mono ?_; rintro e w3 ⟨A3, c3, rfl, hO3, hB3⟩)
          | fail)
        have HO3 := Lib.hid hO3
        have HB3 := Lib.hid hB3
        clear hO3 hB3 hsl hmx
        go_cut [59] from 55 to 58 (fun s59 wx => s59 = .bool (fl && sd) ∧ wx = w3)
        case first =>
          cases fl <;> cases sd
          all_goals
            go_wp2_with fail
            go_meet
            exact ⟨rfl, rfl⟩
        case rest =>
        obtain ⟨rfl, hwx⟩ := hcut
        subst hwx
        rename World => w3
        go_upto_if 59 with (fail)
        go_cut [8] (fun s8 wx => s8 = .slice A m cap ∧ wx = w3)
        case first =>
          cases fl <;> cases sd
          · have HE : Hid (m = n - 1) := Lib.hid HLN.out
            go_wp2_with fail
            go_meet
            exact ⟨by rw [HE.out], rfl⟩
          · have HE : Hid (m = n - 1) := Lib.hid HLN.out
            go_wp2_with fail
            go_meet
            exact ⟨by rw [HE.out], rfl⟩
          · have HE : Hid (m = n - 1) := Lib.hid HLN.out
            go_wp2_with fail
            go_meet
            exact ⟨by rw [HE.out], rfl⟩
          · have HE : Hid (m = n) := Lib.hid HLN.out
            go_wp2_with fail
            go_meet
            exact ⟨by rw [HE.out], rfl⟩
        case rest =>
          obtain ⟨rfl, hwx⟩ := hcut
          subst hwx
          rename World => w3
          have hb03 := upB HB02.out HB3.out
          have hrp : Row w3 w3.heap.size A (sx P) := by
            rw [HTK.out, show sx (ys.take m) = (sx ys).take m from List.map_take ..]
            exact row_take ((HR.out.below hb03).mono hb03.size) m
          have hPm : ∀ x ∈ P, x.size ≤ 100 := fun x hx => HSZ.out x (by rw [HTK.out] at hx; exact List.mem_of_mem_take hx)
          have hmn : m ≤ 60 := by
            have h1 := shr_le (fil nm) ys
            have := congrArg List.length HTK.out
            rw [List.length_take, HM.out, HN.out] at this
            omega
          have HT1 := Lib.hid (Texts_any P P A3 A m m c3 cap w3 HM.out HM.out (by omega) (by omega) (Row.of_own HO3.out) hrp)
          rw [decide_eq_true rfl] at HT1
          have HPM := Lib.hid hPm
          clear hb03 hrp hPm HLN HTK
          go_wp2_with (first
            | (go_at_call 18; refine HT1.out.mono ?_; rintro e w4 ⟨rfl, hB4⟩)
            | fail)
          have HO4 := Lib.hid (own_below HO3.out hB4)
          have HB4 := Lib.hid (upB HB3.out hB4)
          clear hB4 HO3
          go_loopg [67] m (fun g s67 wr => ∃ i : Nat, s67 = .int .i64 (i : Int) ∧ m - i = g ∧ i ≤ m ∧ Hid (wr.ownsRow w2.heap.size 9 1 (.slice A3 m c3) m (sx (wrt P i))) ∧ Hid (Below w2.heap.size w2 wr))
          case atStart => exact ⟨0, rfl, rfl, Nat.zero_le _, by rw [wrt_zero]; exact HO4, HB4⟩
          case round =>
            obtain ⟨i, rfl, rfl, him, HO, HB⟩ := hrel
            by_cases hlt : i < m
            · have hltz : (i : Int) < (m : Int) := by omega
              have hiP : i < P.length := by rw [HM.out]; exact hlt
              obtain ⟨g, rfl, hg, hgl⟩ := own_some HO.out (by omega)
              have c0 := HO.out.cellAt i (by omega)
              rw [sx, List.getElem?_map, wrt_at hiP, Option.map_some] at c0
              have f0 := HO.out.frozenAt i
              have HNX := Lib.hid (wrt_next hiP)
              have hxs := HPM.out P[i] (List.getElem_mem hiP)
              obtain ⟨x, hx⟩ : ∃ x, P[i] = x := ⟨_, rfl⟩
              rw [hx] at c0 HNX hxs
              have HG := Lib.hid hg
              clear hx
              go_wp2_with fail
              go_roundg (m - (i + 1))
              case measure => omega
              case rel => exact ⟨i + 1, by go_num, rfl, by omega, Lib.hid (by rw [HNX.out]; exact (HO.out.stored i _).1), Lib.hid (HB.out.setCell (p := ⟨g, i, none⟩) HG.out _)⟩
            · obtain rfl : i = m := by omega
              have hltz : ¬ ((i : Nat) : Int) < (i : Int) := by omega
              have hb0r := upB HB02.out HB.out
              have hr1 : Row wr wr.heap.size A1 (sx ys) := by
                have h1 := (Row.of_own HO1.out).below HB2.out
                have h2 := upB HB2.out HB.out
                exact ((Row.of_own HO1.out).below h2).mono h2.size
              have HT2 := Lib.hid (Texts_any ys ys A A1 n n cap c1 wr HN.out HN.out (by omega) (by omega) ((HR.out.below hb0r).mono hb0r.size) hr1)
              rw [decide_eq_true rfl] at HT2
              have HBR := Lib.hid hb0r
              clear hb0r hr1
              go_wp2_with (first
                | (go_at_call 18; refine HT2.out.mono ?_; rintro e w5 ⟨rfl, hB5⟩)
                | (go_at_call 9; refine (HAW.out _).mono ?_; rintro e w6 ⟨rfl, hB6⟩)
                | fail)
              go_ret
              exact ⟨rfl, upB (upB HBR.out hB5) hB6⟩

/-! From the walk to the given statement. -/
set_option linter.unusedVariables false
theorem own : ownKnob Tryd.prog.godebug = none := by kernel_rfl
theorem laidOut : laidOutB Tryd.prog = true := by kernel_rfl
set_option maxRecDepth 100000 in
theorem lifted (os : Os) (started : os.Started) (H : Type) (enc : TypeId × Value → H) :
    ReturnsInHanded {} Tryd.checked os 6 .any (fun w args => (Rows.pathShortSpec.pre enc Tryd.prog Tryd.f6 [] false w args ∧ laidMetH Tryd.prog Rows.pathShortRow.laid w) ∧ sizedMet enc Tryd.prog Tryd.f6 (OpenSpec.ofChange Rows.pathShortSpec) false w args)
      (Rows.pathShortSpec.post enc Tryd.prog Tryd.f6 false true false false) := by
  refine returnsIn_and_shaped (C := Tryd.checked) (X := fun w _ => laidMetH Tryd.prog Rows.pathShortRow.laid w) (fun _ _ _ hh h => h.of_heap hh) own started (by kernel_rfl) Tryd.func6
    (ChangeSpec.witness_shaped (enc := enc) (C := Tryd.checked) (os := os) (X := fun w _ => laidMetH Tryd.prog Rows.pathShortRow.laid w) false (World.laidAll Tryd.prog os Rows.pathShortRow.laid) #[.slice none 0 0, .string .empty] 8 (World.laidAll_os _ _ _)
      (World.shaped_of_ZipB (by kernel_rfl) (by kernel_rfl)) (by kernel_rfl) (by kernel_rfl) (by kernel_rfl)
      (by rw [MakeChecks.laidMetH_plain _ _ _ (by kernel_rfl)]; exact laidMet_laidAll _ (by kernel_rfl) (by kernel_rfl))) ?_
  intro W base args ds gs before hval0 hW _ _ hL hsh _
  have hval : ∀ (j : Nat) t v, Tryd.f6.params[j]? = some t → args[j]? = some v → Value.okWide Tryd.prog W .any base t v := hval0
  have hW' := hW
  obtain ⟨p, q, hA0, hV, rfl, _, _⟩ := hW
  have hA : DataW.TrodAll enc Tryd.prog W 0 (fun _ => true) true Tryd.f6.params.toList args.toList ds p := hA0
  rw [Tryd.params6] at hA hval
  obtain ⟨v0, vs0, d0, ds0, p0, q0, hargs, rfl, rfl, h0, r0⟩ := trodAll_cons hA
  obtain ⟨v1, vs1, d1, ds1, p1, q1, rfl, rfl, rfl, h1, r1⟩ := trodAll_cons r0
  obtain ⟨rfl, rfl, rfl⟩ := trodAll_nil r1
  obtain rfl : args = #[v0, v1] := by cases args; simp_all
  obtain ⟨rfl, rfl⟩ := trodVars_none hV
  obtain ⟨a0, len0, cap0, rfl⟩ := okWide_slice Tryd.underlying23 (hval 0 23 v0 rfl rfl)
  have k0 := h0
  have lt0 : ∀ x ∈ p0, x.block < W.heap.size := by obtain ⟨m, hm⟩ := k0; exact DataW.trod_lt m _ _ _ hm
  obtain ⟨z0, w0⟩ := in_texts Tryd.underlying23 Tryd.underlying9 (by kernel_rfl) h0
  obtain ⟨a1, rfl, rfl, rfl, w1⟩ := open_string Tryd.underlying9 (hval 1 9 v1 rfl rfl) h1
  clear hA0 hval0
  refine (walk a0 len0 cap0 z0 a1 W w0 w1).mono fun e W' ⟨he, bel⟩ => ?_
  subst he
  exact ⟨_, rfl, _, _, _, [], _, [], hW', trodAll_mk1 (shut_bool Tryd.underlying4 _), (trodAll_cons_mk (Below.trod laidOut (by kernel_rfl) (of_decide_eq_true (by kernel_rfl)) k0 bel lt0) (trodAll_cons_mk (shut_string Tryd.underlying9 w1) trodAll_mk0)), rfl, bel.frame _, fun h => by cases h⟩

theorem row_holds : Rows.PathShortSaid :=
  OpenClaim.holds_of_wide 6 Tryd.f6 rfl rfl rfl rfl rfl rfl rfl ⟨rfl, rfl, rfl, rfl, rfl⟩ rfl rfl rfl rfl rfl (by kernel_rfl) Tryd.func6 (by kernel_rfl)
    (of_decide_eq_true (by kernel_rfl)) (by unfold Func.isWrapper; first | (rw [if_pos (by decide +kernel)]; kernel_rfl) | (rw [if_neg (by decide +kernel)]; exact ⟨rfl, rfl⟩))
    (fun os started H enc _ => lifted os started H enc)

theorem proved : Rows.PathShortCardSaid :=
  Claim7.holds_tied_plain_at .later [] [.data, .pinned, .pinned] true (true, "096174d399074f8f904a42b2286baa8b454bcc68437828faff9a89272ecf41e2") false
    row_holds (fun _ h => by cases h) (by kernel_rfl) (fun _ h => by cases h) pathShort_row_tie rfl ⟨rfl, rfl⟩ (by kernel_rfl) rfl
    (fun f fn hf hfn => by
      obtain rfl : f = 6 := Option.some.inj ((show Tryd.prog.funcNamed "fascia/fascialaw16.PathShort" = some 6 by kernel_rfl).symm.trans hf) |>.symm
      obtain rfl : fn = Tryd.f6 := (Option.some.inj (Tryd.func6.symm.trans hfn)).symm
      exact ⟨by kernel_rfl, fun j t ht => by
        rw [Tryd.params6] at ht
        have hm : t ∈ [23, 9] := by simpa using Array.mem_of_getElem? ht
        have hall : ([23, 9].all fun u => !Tryd.prog.wantsStandIn u) = true := by kernel_rfl
        exact (show Tryd.prog.wantsStandIn t = false by simpa using List.all_eq_true.1 hall t hm)⟩)
    (by kernel_rfl)
end Go.Proofs.YtjkfppgekepbeaaDoor.pathShort
