/-
  For any label (up to 200), turned and cut anywhere: the order of code points says nothing, nor how often each stands; a part of a label is never less restricted than the label; and scripts are those of either part, together, each once, rising (fascialaw10.MixedOrder answers true). No condition.
-/
import Derived.Test.YtjpmecdjlodaoaaDoorMixK
import Derived.Test.YtjpmecdjlodaoaaDoorFrame
import Derived.Deep.DeepCutAuto
import Derived.Deep.RegionHeld3
import Derived.Test.YtjpmecdjlodaoaaDoorTie
import Derived.Test.YtjpmecdjlodaoaaDoorCards
import Derived.ProofKit
import Derived.Lay
import Derived.Stop.Joined
import Derived.SevenTiedAt
namespace Go.Proofs.YtjpmecdjlodaoaaDoor.mixedOrder
open Go.ChangeShapes Go.WideShapes Go.ChangeAt Go.RowKit Mix Rul Ucd

open Go.Maps in
set_option maxRecDepth 100000 in
set_option maxHeartbeats 8000000 in
theorem walk (A : Option Addr) (n cap : Nat) (l : List Int) (at_ : Int) (w : World) (hin : InRow .i32 w A n cap l) (ha0 : 0 ≤ at_) (ha1 : at_ ≤ 255) : Calls Tryd.prog 4 #[.slice A n cap, .int .u8 at_] w fun e w' => e = .returned (.bool true) ∧ Below w.heap.size w w' := by
  obtain ⟨hlen, hcap, _, hrow, _⟩ := hin
  have HAW := Lib.hid awake10_any
  by_cases h200 : 200 < n
  · have h200z : (200 : Int) < (n : Int) := by omega
    clear hrow hlen
    go_enter Tryd.func4, Tryd.ntmps4
    go_wp2_with (first | (go_at_call 16; refine (HAW.out _).mono ?_; rintro e w90 ⟨rfl, hB90⟩) | fail)
    go_ret
    exact ⟨rfl, hB90⟩
  · have h200z : ¬ (200 : Int) < (n : Int) := by omega
    have hn2 : n ≤ 200 := by omega
    obtain ⟨k, hk, ek, ek2⟩ : ∃ k : Nat, k ≤ n ∧ at_ % ((n : Int) + 1) = (k : Int) ∧ at_.tmod ((n : Int) + 1) = (k : Int) := by
      have h1 := Int.emod_nonneg at_ (show ((n : Int) + 1) ≠ 0 by omega)
      have h2 := Int.emod_lt_of_pos at_ (show 0 < ((n : Int) + 1) by omega)
      exact ⟨(at_ % ((n : Int) + 1)).toNat, by omega, by omega, by rw [Int.tmod_eq_emod_of_nonneg ha0]; omega⟩
    have hwa : IntKind.i64.wrap at_ = at_ := IntWalk.i64_in _ (by omega)
    have hwn : IntKind.i64.wrap ((n : Int) + 1) = (n : Int) + 1 := IntWalk.i64_in _ (by omega)
    have HLN := Lib.hid hlen
    have HR := Lib.hid hrow
    clear h200 hlen hrow
    go_enter Tryd.func4, Tryd.ntmps4
    go_upto_region 4 with fail
    go_cut [6] (fun s6 wx => ∃ A1 c1, s6 = .slice A1 (n + n) c1 ∧ Row wx wx.heap.size A1 (cl .i32 ((l.drop k ++ l.take k) ++ l)) ∧ Below w.heap.size w wx)
    case first =>
      have hkc : k ≤ cap := by omega
      have hkz : (0 : Int) ≤ (k : Int) := by omega
      have HTL : Hid ((l.take k).length = k) := Lib.hid (by rw [List.length_take, HLN.out]; omega)
      have HDL : Hid ((l.drop k).length = n - k) := Lib.hid (by rw [List.length_drop, HLN.out])
      have TL : Hid (∀ W, Below w.heap.size w W → Row W W.heap.size A (cl .i32 l)) := Lib.hid fun W hB => upR HR.out hB
      have TA : Hid (∀ W, Below w.heap.size w W → Row W W.heap.size A (cl .i32 (l.take k))) := Lib.hid fun W hB => row_take (upR HR.out hB) k
      clear ek ek2 hwa hwn
      by_cases hck : cap = k
      · obtain rfl : n = k := by omega
        subst hck
        have hck2 : (cap == cap) = true := by simp
        have TB : Hid (∀ W A', Row W W.heap.size A' (cl .i32 (l.drop cap))) := Lib.hid fun W A' => .inl (by rw [List.drop_of_length_le (by rw [HLN.out]; exact Nat.le_refl _)]; rfl)
        rw [Nat.sub_self] at HDL
        go_region_held3 (fun _ => True) (trivial) (first
          | (refine step_app w _ rfl (.tmp 25) (.tmp 28) rfl _ 0 [] rfl (own_drew (own_none w w.heap.size 21 (Nat.le_refl _))) (upA w _).drew _ 0 0 (l.drop cap) rfl HDL.out (TB.out _ _) 0 rfl (by omega) ?_; intro A2 c2 w2 hO2 hB2)
          | (refine step_app w _ rfl (.tmp 29) (.tmp 32) rfl _ 0 ([] ++ l.drop cap) rfl hO2 hB2 A cap cap (l.take cap) rfl HTL.out (TA.out _ hB2) cap (by omega) (by omega) ?_; intro A3 c3 w3 hO3 hB3)
          | (refine step_app w _ rfl (.tmp 33) (.tmp 34) rfl _ cap ([] ++ l.drop cap ++ l.take cap) rfl hO3 hB3 A cap cap l rfl HLN.out (TL.out _ hB3) (cap + cap) rfl (by omega) ?_; intro A4 c4 w4 hO4 hB4)
          | fail)
        all_goals (
          go_wp2_with fail
          go_meet
          exact ⟨A4, c4, rfl, by simpa using own_row hO4, hB4⟩)
      · have hck2 : (cap == k) = false := by simpa using hck
        have TB : Hid (∀ W, Below w.heap.size w W → Row W W.heap.size (Option.map (fun x => x.add k) A) (cl .i32 (l.drop k))) := Lib.hid fun W hB => row_drop (upR HR.out hB) HLN.out hk hck
        go_region_held3 (fun _ => True) (trivial) (first
          | (refine step_app w _ rfl (.tmp 25) (.tmp 28) rfl _ 0 [] rfl (own_drew (own_none w w.heap.size 21 (Nat.le_refl _))) (upA w _).drew (Option.map (fun x => x.add k) A) (n - k) (cap - k) (l.drop k) rfl HDL.out (TB.out _ (upA w _).drew) (n - k) (by omega) (by omega) ?_; intro A2 c2 w2 hO2 hB2)
          | (refine step_app w _ rfl (.tmp 29) (.tmp 32) rfl _ (n - k) ([] ++ l.drop k) rfl hO2 hB2 A k cap (l.take k) rfl HTL.out (TA.out _ hB2) n (by omega) (by omega) ?_; intro A3 c3 w3 hO3 hB3)
          | (refine step_app w _ rfl (.tmp 33) (.tmp 34) rfl _ n ([] ++ l.drop k ++ l.take k) rfl hO3 hB3 A n cap l rfl HLN.out (TL.out _ hB3) (n + n) rfl (by omega) ?_; intro A4 c4 w4 hO4 hB4)
          | fail)
        all_goals (
          go_wp2_with fail
          go_meet
          exact ⟨A4, c4, rfl, by simpa using own_row hO4, hB4⟩)
    case rest =>
      obtain ⟨A1, c1, rfl, hRT, hB0⟩ := hcut
      rename World => w0
      clear ek ek2 hwa hwn
      have HRL : Hid (∀ W, Below w0.heap.size w0 W → Row W W.heap.size A (cl .i32 l)) := Lib.hid fun W h => upR HR.out (upB hB0 h)
      have hTl : ((l.drop k ++ l.take k) ++ l).length = n + n := by
        have := HLN.out
        simp only [List.length_append, List.length_drop, List.length_take, this]
        omega
      obtain ⟨e1, e2, e3, e4⟩ := same_all (turned_mem l k)
      have HST := Lib.hid (fun W (h : Below w0.heap.size w0 W) => Scripts_any _ A1 (n + n) c1 W hTl (by omega) (upR hRT h))
      have HLT := Lib.hid (fun W (h : Below w0.heap.size w0 W) => Level_any _ A1 (n + n) c1 W hTl (by omega) (upR hRT h))
      have HDT := Lib.hid (fun W (h : Below w0.heap.size w0 W) => Digits_any _ A1 (n + n) c1 W hTl (by omega) (upR hRT h))
      have HKT := Lib.hid (fun W (h : Below w0.heap.size w0 W) => Check_any _ A1 (n + n) c1 W hTl (by omega) (upR hRT h))
      rw [e1] at HST
      rw [e2] at HLT
      rw [e3] at HDT
      rw [e4] at HKT
      have HSL := Lib.hid (fun W (h : Below w0.heap.size w0 W) => Scripts_any l A n cap W HLN.out (by omega) (HRL.out W h))
      have HLL := Lib.hid (fun W (h : Below w0.heap.size w0 W) => Level_any l A n cap W HLN.out (by omega) (HRL.out W h))
      have HDL := Lib.hid (fun W (h : Below w0.heap.size w0 W) => Digits_any l A n cap W HLN.out (by omega) (HRL.out W h))
      have HKL := Lib.hid (fun W (h : Below w0.heap.size w0 W) => Check_any l A n cap W HLN.out (by omega) (HRL.out W h))
      have hx8 : C8 (scripts l) := fun x hx => by have := scripts_bd hx; omega
      have hxl := scripts_len l
      have HXB := Lib.hid (fun c (h : c ∈ scripts l) => scripts_bd h)
      have HXR := Lib.hid (scripts_rise l)
      have HDP := Lib.hid (dst_parts l k)
      have HPC := Lib.hid (fun c => parts_contain l k c)
      have HLM := Lib.hid (fun j => lev_mono (pt_mem (l := l) (k := k) (j := j)))
      have HDM := Lib.hid (fun j => dgs_mono (pt_mem (l := l) (k := k) (j := j)))
      generalize scripts l = xs at HST HSL hx8 hxl HXB HXR HDP HPC
      have HSM : Hid (∀ B1 d1 B2 d2 W, Row W W.heap.size B1 (cl .u8 xs) → Row W W.heap.size B2 (cl .u8 xs) → Calls Tryd.prog 7 #[.slice B1 xs.length d1, .slice B2 xs.length d2] W (IsB true W)) := Lib.hid (fun B1 d1 B2 d2 W h1 h2 => by
        have := same_any xs xs B1 xs.length d1 B2 xs.length d2 W rfl rfl h1 h2 hx8 hx8
        rwa [decide_eq_true rfl] at this)
      generalize lev l = vl at HLT HLL HLM
      generalize dgs l = vd at HDT HDL HDM
      generalize Mix.chk l = vk at HKT HKL
      obtain ⟨N, hN⟩ : ∃ N, xs.length = N := ⟨_, rfl⟩
      have HNN := Lib.hid hN
      have HX : Hid (∀ W e w', Row8 xs W e w' → ∃ A c, e = .returned (.slice A N c) ∧ Row w' w'.heap.size A (cl .u8 xs) ∧ Below W.heap.size W w') := Lib.hid (fun W e w' ⟨A, c, h1, h2, h3⟩ => ⟨A, c, by rw [h1, hN], h2, h3⟩)
      rw [hN] at HSM hxl HDP
      have hvl : (vl != vl) = false := by simp
      have hvd : (vd != vd) = false := by simp
      have hvk : (vk != vk) = false := by simp
      have hmm := @run_makeMap Tryd.prog
      clear hTl e1 e2 e3 e4 hRT hx8 hN
      have h00 : Below w0.heap.size w0 w0 := Below.refl _ _
      go_upto_region 8 with (first
        | (go_at_call 8; have hf := h1; refine (HSL.out _ h1).mono ?_; intro e w2 hrw; obtain ⟨B2, d2, rfl, hr2, hB2⟩ := HX.out _ _ _ hrw; have h2 := upB h1 hB2)
        | (go_at_call 8; refine (HST.out _ h00).mono ?_; intro e w1 hrw; obtain ⟨B1, d1, rfl, hr1, h1⟩ := HX.out _ _ _ hrw)
        | (go_at_call 7; refine (HSM.out _ _ _ _ _ (upR hr1 hB2) hr2).mono ?_; rintro e w3 ⟨rfl, hB3⟩; have h3 := upB h2 hB3)
        | (go_at_call 10; have hf := h4; refine (HLL.out _ h4).mono ?_; rintro e w5 ⟨rfl, hB5⟩; have h5 := upB h4 hB5)
        | (go_at_call 10; refine (HLT.out _ h3).mono ?_; rintro e w4 ⟨rfl, hB4⟩; have h4 := upB h3 hB4)
        | (go_at_call 12; have hf := h6; refine (HDL.out _ h6).mono ?_; rintro e w7 ⟨rfl, hB7⟩; have h7 := upB h6 hB7)
        | (go_at_call 12; refine (HDT.out _ h5).mono ?_; rintro e w6 ⟨rfl, hB6⟩; have h6 := upB h5 hB6)
        | (go_at_call 14; have hf := h8; refine (HKL.out _ h8).mono ?_; rintro e w9 ⟨rfl, hB9⟩; have h9 := upB h8 hB9)
        | (go_at_call 14; refine (HKT.out _ h7).mono ?_; rintro e w8 ⟨rfl, hB8⟩; have h8 := upB h7 hB8)
        | fail)
      have hM0 : CM (w9.alloc (.map #[] 0)) w9.heap.size 0 (.map []) := World.ownsMap_made _ _ _ _
      have h10 : Below w0.heap.size w0 (w9.alloc (.map #[] 0)) := up_alloc h9
      generalize w9.alloc (.map #[] 0) = wm at hM0 h10 ⊢
      have hmb : w0.heap.size ≤ w9.heap.size := h9.size
      generalize w9.heap.size = mb at hM0 hmb ⊢
      clear hB2 hB3 hB4 hB5 hB6 hB7 hB8 hB9 h1 h2 h3 h4 h5 h6 h7 h8 h9 hr1 hr2 hmm hf hvl hvd hvk HST HLT HDT HKT HKL HSM
      go_cut [70, 71, 72] (fun s70 s71 s72 wx => ∃ B A2 m2 c2, s70 = .slice (some ⟨B, 0, none⟩) 2 2 ∧ s71 = .int .i64 2 ∧ s72 = .int .i64 0 ∧ m2 = n - k ∧ PB wx B A k cap A2 m2 c2 ∧ Hid (∀ W, Below w0.heap.size w0 W → Row W W.heap.size A2 (cl .i32 (l.drop k))) ∧ CM wx mb 0 (.map []) ∧ Below w0.heap.size w0 wx)
      case first =>
        have hkc : k ≤ cap := by omega
        have hkz : (0 : Int) ≤ (k : Int) := by omega
        have HM := Lib.hid (fun W (h : Below wm.heap.size wm W) => map_below hM0 h)
        by_cases hck : cap = k
        · obtain rfl : n = k := by omega
          subst hck
          have hck2 : (cap == cap) = true := by simp
          have TB : Hid (∀ W A', Row W W.heap.size A' (cl .i32 (l.drop cap))) := Lib.hid fun W A' => .inl (by rw [List.drop_of_length_le (by rw [HLN.out]; exact Nat.le_refl _)]; rfl)
          go_region_held3 (fun _ => True) (trivial) (fail)
          all_goals (
            go_wp2_with fail
            go_meet
            refine ⟨_, _, _, _, rfl, rfl, rfl, ?_, World.alloc_heap_new wm _, Lib.hid (fun W _ => TB.out W _), HM.out _ (upA wm _).drew, up_drew (up_alloc h10)⟩
            omega)
        · have hck2 : (cap == k) = false := by simpa using hck
          have TB : Hid (∀ W, Below w0.heap.size w0 W → Row W W.heap.size (Option.map (fun x => x.add k) A) (cl .i32 (l.drop k))) := Lib.hid fun W h => row_drop (HRL.out W h) HLN.out hk hck
          go_region_held3 (fun _ => True) (trivial) (fail)
          all_goals (
            go_wp2_with fail
            go_meet
            exact ⟨_, _, _, _, rfl, rfl, rfl, rfl, World.alloc_heap_new wm _, TB, HM.out _ (upA wm _).drew, up_drew (up_alloc h10)⟩)
      case rest =>
        obtain ⟨B, A2, _, c2, rfl, rfl, rfl, rfl, hPB, hR2, hM, hB1⟩ := hcut
        rename World => wp
        go_upto_region 9 with fail
        go_loopg [72] 2 (fun m s72 wr => ∃ (j : Nat) (D : DataW Unit), s72 = .int .i64 (j : Int) ∧ m = 2 - j ∧ j ≤ 2 ∧ Hid (Cnt (csJ l k j) D) ∧ CM wr mb (csJ l k j).length D ∧ PB wr B A k cap A2 (n - k) c2 ∧ Below w0.heap.size w0 wr)
        case atStart => exact ⟨0, .map [], rfl, rfl, Nat.zero_le _, Lib.hid cnt_nil, hM, hPB, hB1⟩
        case round =>
          clear hM hPB hB1
          obtain ⟨j, D, rfl, rfl, hj, HC, hM, hPB, hB⟩ := hrel
          by_cases hlt : j < 2
          · have hltz : (j : Int) < 2 := by omega
            obtain ⟨Aj, nj, cj, cP, hRj, hpl, hnj⟩ := hPB.part HLN.out hk (HRL.out _ hB) (hR2.out _ hB) hlt
            have HLP := Lib.hid (fun W (h : Below wr.heap.size wr W) => Level_any (pt l k j) Aj nj cj W hpl (by omega) (upR hRj h))
            have HDP2 := Lib.hid (fun W (h : Below wr.heap.size wr W) => Digits_any (pt l k j) Aj nj cj W hpl (by omega) (upR hRj h))
            have HSP := Lib.hid (fun W (h : Below wr.heap.size wr W) => Scripts_any (pt l k j) Aj nj cj W hpl (by omega) (upR hRj h))
            have hple := HLM.out j
            have HDM2 := Lib.hid (HDM.out j)
            have HSC := Lib.hid (csJ_succ l k hlt)
            have hcl := csJ_len l k j
            have HYB := Lib.hid (fun c (h : c ∈ scripts (pt l k j)) => scripts_bd h)
            have hyl := scripts_len (pt l k j)
            generalize scripts (pt l k j) = ys at HSP HSC HYB hyl
            generalize lev (pt l k j) = vp at HLP hple
            generalize dgs (pt l k j) = dp at HDP2 HDM2
            generalize csJ l k j = cs at HC hM HSC hcl
            obtain ⟨c0, hc0⟩ : ∃ c, cs.length = c := ⟨_, rfl⟩
            have HC0 := Lib.hid hc0
            rw [hc0] at hM hcl
            obtain ⟨Ny, hNy⟩ : ∃ N, ys.length = N := ⟨_, rfl⟩
            have HNY := Lib.hid hNy
            have HY : Hid (∀ W e w', Row8 ys W e w' → ∃ A c, e = .returned (.slice A Ny c) ∧ Row w' w'.heap.size A (cl .u8 ys) ∧ Below W.heap.size W w') := Lib.hid (fun W e w' ⟨A, c, h1, h2, h3⟩ => ⟨A, c, by rw [h1, hNy], h2, h3⟩)
            rw [hNy] at hyl
            have hpd : decide (vl < vp) = false := decide_eq_false (by omega)
            clear hc0 hNy hRj hpl hnj hple
            go_upto_region 11 with fail
            go_cut [89] (fun s89 wx => s89 = .bool false ∧ Below wr.heap.size wr wx)
            case first =>
              cases vd with
              | true =>
                obtain rfl : dp = true := HDM2.out rfl
                go_wp2_with (first
                  | (go_at_call 10; have hf := h1; refine (HLL.out _ (upB hB h1)).mono ?_; rintro e w2 ⟨rfl, hB2⟩; have h2 := upB h1 hB2)
                  | (go_at_call 10; refine (HLP.out _ (Below.refl _ _)).mono ?_; rintro e w1 ⟨rfl, h1⟩)
                  | (go_at_call 12; have hf := h3; refine (HDP2.out _ h3).mono ?_; rintro e w4 ⟨rfl, hB4⟩; have h4 := upB h3 hB4)
                  | (go_at_call 12; refine (HDL.out _ (upB hB h2)).mono ?_; rintro e w3 ⟨rfl, hB3⟩; have h3 := upB h2 hB3)
                  | fail)
                go_meet
                exact ⟨rfl, h4⟩
              | false =>
                go_wp2_with (first
                  | (go_at_call 10; have hf := h1; refine (HLL.out _ (upB hB h1)).mono ?_; rintro e w2 ⟨rfl, hB2⟩; have h2 := upB h1 hB2)
                  | (go_at_call 10; refine (HLP.out _ (Below.refl _ _)).mono ?_; rintro e w1 ⟨rfl, h1⟩)
                  | (go_at_call 12; refine (HDL.out _ (upB hB h2)).mono ?_; rintro e w3 ⟨rfl, hB3⟩; have h3 := upB h2 hB3)
                  | fail)
                go_meet
                exact ⟨rfl, h3⟩
            case rest =>
              obtain ⟨rfl, hBw⟩ := hcut
              rename World => wv
              clear HLP HDP2 HDM2 hpd
              go_wp2_with (first
                | (go_at_call 8; refine (HSP.out _ hBw).mono ?_; intro e wq hrw; obtain ⟨Ay, cy, rfl, hry, hBq⟩ := HY.out _ _ _ hrw; have hq := upB (upB hB hBw) hBq; have hMq := map_below (map_below hM hBw) hBq; have hPq := (hPB.go hBw).go hBq)
                | fail)
              clear hBw hBq hB hM hPB HSP HY
              go_loopg [93] Ny (fun m s93 wr => ∃ (i : Nat) (D2 : DataW Unit), s93 = .int .i64 (i : Int) ∧ m = Ny - i ∧ i ≤ Ny ∧ Hid (Cnt (cs ++ ys.take i) D2) ∧ CM wr mb (c0 + i) D2 ∧ Row wr wr.heap.size Ay (cl .u8 ys) ∧ PB wr B A k cap A2 (n - k) c2 ∧ Below w0.heap.size w0 wr)
              case atStart => exact ⟨0, D, rfl, rfl, Nat.zero_le _, Lib.hid (by rw [List.take_zero, List.append_nil]; exact HC.out), hMq, hry, hPq, hq⟩
              case round =>
                clear hMq hry hPq hq
                obtain ⟨i, D2, rfl, rfl, hi, HC2, hM2, hry, hPq, hq⟩ := hrel
                by_cases hit : i < Ny
                · have hitz : (i : Int) < (Ny : Int) := by omega
                  obtain ⟨bq, oq, rfl, hb', hcc⟩ := hry.at_ (by have := HNY.out; rw [List.length_map]; omega)
                  have cz := cell8 hcc i (by rw [HNY.out]; exact hit)
                  have HZM := mems (l := ys) (i := i) (by rw [HNY.out]; exact hit)
                  have HTS := Lib.hid (take_snoc ys i (by rw [HNY.out]; exact hit))
                  have hzb := HYB.out _ HZM
                  have hkl : (cs ++ ys.take i).length ≤ 200 := by rw [List.length_append, HC0.out, List.length_take]; omega
                  generalize ys[i]! = z at cz HTS hzb
                  have hz : 0 ≤ z ∧ z ≤ 11 := by omega
                  have hwz := wf_scr hz
                  clear hcc HZM hzb
                  go_wp2_with (first
                    | (at_lookup; refine wpList_lookup_own_int _ rfl _ _ 29 rfl 5 3 .i64 law8 Tryd.underlying29 Tryd.underlying3 (zero8 _) mb (c0 + i) _ rfl hM2 _ _ rfl (keyOf_int_mk Tryd.underlying5 hwz) ?_; intro c hat hwc; obtain ⟨hc0, hc1⟩ := count_bd HC2.out hz hat hkl; have HST := Lib.hid (cnt_step HC2.out hz hat).2; clear hat hwc)
                    | (at_mapUpdate; refine wpList_mapUpdate_own _ rfl _ _ _ 29 rfl 5 3 law8 Tryd.underlying29 _ mb (c0 + i) _ rfl hM2 (by unfold maxLen; omega) _ _ _ rfl rfl (keyOf_int_mk Tryd.underlying5 hwz) _ [] (plainElem_int Tryd.underlying3 (WalkArith.wf_i64 (by omega))) ?_; intro w3 hM3 hg3)
                    | fail)
                  go_roundg (Ny - (i + 1))
                  case measure => omega
                  case rel => exact ⟨i + 1, _, by go_num, rfl, by omega, Lib.hid (by rw [HTS.out, ← List.append_assoc]; exact HST.out), hM3, row_grown hM2 hg3 hry, hPq.grown hM2 hg3, hq.grown hg3 hq.size (fun j e => by cases e; exact hmb)⟩
                · obtain rfl : i = Ny := by omega
                  have hitz : ¬ ((i : Nat) : Int) < (i : Int) := by omega
                  have HLC : Hid (csJ l k (j + 1) = cs ++ ys.take i) := Lib.hid (by rw [HSC.out, List.take_of_length_le (by rw [HNY.out]; exact Nat.le_refl _)])
                  have HLL2 : Hid ((csJ l k (j + 1)).length = c0 + i) := Lib.hid (by rw [HSC.out, List.length_append, HC0.out, HNY.out])
                  go_wp2_with fail
                  go_roundg (2 - (j + 1))
                  case measure => omega
                  case rel => exact ⟨j + 1, D2, by go_num, rfl, by omega, Lib.hid (by rw [HLC.out]; exact HC2.out), by rw [HLL2.out]; exact hM2, hPq, hq⟩
          · obtain rfl : j = 2 := by omega
            clear HLL HLM HDL HDM hR2 HRL hPB
            have hsz : (Maps.size D : Int) = (N : Int) := by
              have h1 := HC.out.2.2.2
              have h2 : dst (csJ l k 2) = N := HDP.out
              rw [h1, h2]
            have HCT : Hid (∀ c ∈ xs, 0 < (csJ l k 2).count c) := Lib.hid (fun c hc => List.count_pos_iff.2 ((HPC.out c).2 hc))
            have hcl := csJ_len l k 2
            generalize csJ l k 2 = cs at HC hM HCT hcl
            clear HPC HDP
            go_wp2_with (first
              | (go_at_call 8; refine (HSL.out _ hB).mono ?_; intro e wz hrw; obtain ⟨Az, cz, rfl, hrz, hBz⟩ := HX.out _ _ _ hrw; have hMz := map_below hM hBz; have hz := upB hB hBz) | fail)
            clear hM hB hBz HSL HX
            go_loopg [107] N (fun m s107 wr => ∃ i : Nat, s107 = .int .i64 (i : Int) ∧ m = N - i ∧ i ≤ N ∧ wr = wz)
            case atStart => exact ⟨0, rfl, rfl, Nat.zero_le _, rfl⟩
            case round =>
              obtain ⟨i, rfl, rfl, hi, rfl⟩ := hrel
              by_cases hit : i < N
              · have hitz : (i : Int) < (N : Int) := by omega
                obtain ⟨bq, oq, rfl, hb', hcc⟩ := hrz.at_ (by have := HNN.out; rw [List.length_map]; omega)
                have c0 := cell8 hcc i (by rw [HNN.out]; exact hit)
                have HZM := mems (l := xs) (i := i) (by rw [HNN.out]; exact hit)
                have hzb := HXB.out _ HZM
                have hct := HCT.out _ HZM
                have hlk := cm_look hMz HC.out xs[i]! (wf_scr (by omega))
                have hcu : cs.count xs[i]! ≤ 24 := Nat.le_trans List.count_le_length hcl
                by_cases h0 : i = 0
                · subst h0
                  rw [Nat.add_zero] at c0
                  generalize xs[0]! = z at c0 hzb hct hlk hcu
                  generalize cs.count z = v at hct hlk hcu
                  have hvb : ((v : Int) == 0) = false := by simp; omega
                  have hzd : decide (z ≤ 1) = false := decide_eq_false (by omega)
                  clear hcc HZM
                  go_wp2_with fail
                  go_roundg (N - (0 + 1))
                  case measure => omega
                  case rel => exact ⟨0 + 1, by go_num, rfl, by omega, rfl⟩
                · obtain ⟨p, rfl⟩ : ∃ p, i = p + 1 := ⟨i - 1, by omega⟩
                  have c1 := cell8 hcc p (by rw [HNN.out]; omega)
                  have hrise := rise_at HXR.out (i := p) (by rw [HNN.out]; exact hit)
                  generalize xs[p + 1]! = z at c0 hzb hct hlk hcu hrise
                  generalize xs[p]! = y at c1 hrise
                  generalize cs.count z = v at hct hlk hcu
                  have hvb : ((v : Int) == 0) = false := by simp; omega
                  have hzd : decide (z ≤ 1) = false := decide_eq_false (by omega)
                  have hyd : decide (z ≤ y) = false := decide_eq_false (by omega)
                  have hpi : (((p + 1 : Nat) : Int)) = (p : Int) + 1 := by omega
                  have hp1 : (p : Int) + 1 - 1 = (p : Int) := by omega
                  have hwp : IntKind.i64.wrap (p : Int) = (p : Int) := IntWalk.i64_in _ (by omega)
                  have hpz : (0 : Int) ≤ (p : Int) := by omega
                  have hpN : (p : Int) < (N : Int) := by omega
                  clear hcc HZM
                  go_wp2_with fail
                  go_roundg (N - (p + 1 + 1))
                  case measure => omega
                  case rel => exact ⟨p + 1 + 1, by go_num, rfl, by omega, rfl⟩
              · obtain rfl : i = N := by omega
                have hitz : ¬ ((i : Nat) : Int) < (i : Int) := by omega
                go_wp2_with (first
                  | (at_len; refine wpList_len_own _ rfl _ 29 rfl 5 3 Tryd.underlying29 _ mb _ D rfl hMz ?_)
                  | (go_at_call 16; refine (HAW.out _).mono ?_; rintro e w90 ⟨rfl, hB90⟩)
                  | fail)
                go_ret
                exact ⟨rfl, upB (upB hB0 hz) hB90⟩

/-! From the walk to the given statement. -/
set_option linter.unusedVariables false
theorem own : ownKnob Tryd.prog.godebug = none := by kernel_rfl
theorem laidOut : laidOutB Tryd.prog = true := by kernel_rfl
set_option maxRecDepth 100000 in
theorem lifted (os : Os) (started : os.Started) (H : Type) (enc : TypeId × Value → H) :
    ReturnsInHanded {} Tryd.checked os 4 .any (fun w args => (Rows.mixedOrderSpec.pre enc Tryd.prog Tryd.f4 [] false w args ∧ laidMetH Tryd.prog Rows.mixedOrderRow.laid w) ∧ sizedMet enc Tryd.prog Tryd.f4 (OpenSpec.ofChange Rows.mixedOrderSpec) false w args)
      (Rows.mixedOrderSpec.post enc Tryd.prog Tryd.f4 false true false false) := by
  refine returnsInHanded_of_change_and (C := Tryd.checked) (X := fun w _ => laidMetH Tryd.prog Rows.mixedOrderRow.laid w) (fun _ _ _ hh h => h.of_heap hh) own started (by kernel_rfl) Tryd.func4
    (ChangeSpec.witness_shaped (enc := enc) (C := Tryd.checked) (os := os) (X := fun w _ => laidMetH Tryd.prog Rows.mixedOrderRow.laid w) false (World.laidAll Tryd.prog os Rows.mixedOrderRow.laid) #[.slice none 0 0, .int .u8 0] 8 (World.laidAll_os _ _ _)
      (World.shaped_of_ZipB (by kernel_rfl) (by kernel_rfl)) (by kernel_rfl) (by kernel_rfl) (by kernel_rfl)
      (by rw [MakeChecks.laidMetH_plain _ _ _ (by kernel_rfl)]; exact laidMet_laidAll _ (by kernel_rfl) (by kernel_rfl))) ?_
  intro W base args ds gs before hval0 hW _ _ hL _
  have hval : ∀ (j : Nat) t v, Tryd.f4.params[j]? = some t → args[j]? = some v → Value.okWide Tryd.prog W .any base t v := hval0
  have hW' := hW
  obtain ⟨p, q, hA0, hV, rfl, _, _⟩ := hW
  have hA : DataW.TrodAll enc Tryd.prog W 0 (fun _ => true) true Tryd.f4.params.toList args.toList ds p := hA0
  rw [Tryd.params4] at hA hval
  obtain ⟨v0, vs0, d0, ds0, p0, q0, hargs, rfl, rfl, h0, r0⟩ := trodAll_cons hA
  obtain ⟨v1, vs1, d1, ds1, p1, q1, rfl, rfl, rfl, h1, r1⟩ := trodAll_cons r0
  obtain ⟨rfl, rfl, rfl⟩ := trodAll_nil r1
  obtain rfl : args = #[v0, v1] := by cases args; simp_all
  obtain ⟨rfl, rfl⟩ := trodVars_none hV
  obtain ⟨a0, len0, cap0, rfl⟩ := okWide_slice Tryd.underlying22 (hval 0 22 v0 rfl rfl)
  have k0 := h0
  have lt0 : ∀ x ∈ p0, x.block < W.heap.size := by obtain ⟨m, hm⟩ := k0; exact DataW.trod_lt m _ _ _ hm
  obtain ⟨z0, w0⟩ := in_row Tryd.underlying22 Tryd.underlying21 (by kernel_rfl) h0
  obtain ⟨a1, rfl, rfl, rfl, w1⟩ := open_int Tryd.underlying5 (hval 1 5 v1 rfl rfl) h1
  have b1 : 0 ≤ a1 ∧ a1 ≤ 255 := by simpa [Lit.wf, IntKind.min, IntKind.max, IntKind.signed, IntKind.bits] using w1
  clear hA0 hval0
  refine (walk a0 len0 cap0 z0 a1 W w0 b1.1 b1.2).mono fun e W' ⟨he, bel⟩ => ?_
  subst he
  exact ⟨_, rfl, _, _, _, [], _, [], hW', trodAll_mk1 (shut_bool Tryd.underlying4 _), (trodAll_cons_mk (Below.trod laidOut (by kernel_rfl) (of_decide_eq_true (by kernel_rfl)) k0 bel lt0) (trodAll_cons_mk (shut_int Tryd.underlying5 w1) trodAll_mk0)), rfl, bel.frame _, fun h => by cases h⟩

theorem row_holds : Rows.MixedOrderSaid :=
  OpenClaim.holds_of_wide 4 Tryd.f4 rfl rfl rfl rfl rfl rfl rfl ⟨rfl, rfl, rfl, rfl, rfl⟩ rfl rfl rfl rfl rfl (by kernel_rfl) Tryd.func4 (by kernel_rfl)
    (of_decide_eq_true (by kernel_rfl)) (by unfold Func.isWrapper; first | (rw [if_pos (by decide +kernel)]; kernel_rfl) | (rw [if_neg (by decide +kernel)]; exact ⟨rfl, rfl⟩))
    (fun os started H enc _ => lifted os started H enc)

theorem proved : Rows.MixedOrderCardSaid :=
  Claim7.holds_tied_plain_at .later [] [.data, .data, .data, .data, .sentinel, .sentinel, .pinned] true (true, "894162bb662dbb9bbc7214303acd8c2af297c2ae42e7ec5e5cea64e1b3bfb4cd") true
    row_holds (fun _ h => by cases h) (by kernel_rfl) (fun _ h => by cases h) mixedOrder_row_tie rfl ⟨rfl, rfl⟩ (by kernel_rfl) rfl
    (fun f fn hf hfn => by
      obtain rfl : f = 4 := Option.some.inj ((show Tryd.prog.funcNamed "fascia/fascialaw10.MixedOrder" = some 4 by kernel_rfl).symm.trans hf) |>.symm
      obtain rfl : fn = Tryd.f4 := (Option.some.inj (Tryd.func4.symm.trans hfn)).symm
      exact ⟨by kernel_rfl, fun j t ht => by
        rw [Tryd.params4] at ht
        have hm : t ∈ [22, 5] := by simpa using Array.mem_of_getElem? ht
        have hall : ([22, 5].all fun u => !Tryd.prog.wantsStandIn u) = true := by kernel_rfl
        exact (show Tryd.prog.wantsStandIn t = false by simpa using List.all_eq_true.1 hall t hm)⟩)
    (by kernel_rfl)
end Go.Proofs.YtjpmecdjlodaoaaDoor.mixedOrder
