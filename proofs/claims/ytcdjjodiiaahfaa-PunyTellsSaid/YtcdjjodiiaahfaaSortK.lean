/-
  The general sort: pdqsort at []rune, and what slices.Sort makes of a row.
-/
import Derived.Test.YtcdjjodiiaahfaaSortJ
import Derived.Test.YtcdjjodiiaahfaaSortI
import Derived.Test.YtcdjjodiiaahfaaSortF
import Derived.Test.YtcdjjodiiaahfaaSortP
import Derived.Test.YtcdjjodiiaahfaaSortQ
namespace Go.Proofs.Ytcdjjodiiaahfaa
open Go.RowKit Puny Go.Shelf Go.Sort

/-- a call's own part, sorted -/
def PdqOk (n : Nat) : Prop := ∀ (base g cap a b lim : Nat) (d : Array Nat) (w : World), OW base g cap d w → a ≤ b → b ≤ d.size → d.size ≤ 50000 → b - a ≤ n → lim ≤ 1000 → Sort.Below ltN a b d →
    Calls Try.prog 63 #[.slice (some ⟨g, 0, none⟩) d.size cap, .int .i64 a, .int .i64 b, .int .i64 lim] w (Sorts base g cap (fun d' => PermIn a b d d' ∧ SortedIn ltN a b d') w)

theorem heap_any (base g cap a b : Nat) (d : Array Nat) (w : World) (hw : OW base g cap d w) (hab : a < b) (hb : b ≤ d.size) (hsz : d.size ≤ 1000000) :
    Calls Try.prog 68 #[.slice (some ⟨g, 0, none⟩) d.size cap, .int .i64 a, .int .i64 b] w (Sorts base g cap (fun d' => PermIn a b d d' ∧ SortedIn ltN a b d') w) := by
  obtain ⟨n, rfl⟩ : ∃ n, b = a + n := ⟨b - a, by omega⟩
  exact (heapSort_walk base g cap a n d w hw (by omega) hb hsz).mono fun _ _ ⟨he, d', hd, hS⟩ => ⟨he, d', by rw [hd]; exact heapSort_holds swo d a (a + n) (by omega) hb, hS⟩
theorem rev_any (base g cap a b : Nat) (d : Array Nat) (w : World) (hw : OW base g cap d w) (hab : a < b) (hb : b ≤ d.size) (hsz : d.size ≤ 1000000) :
    Calls Try.prog 71 #[.slice (some ⟨g, 0, none⟩) d.size cap, .int .i64 a, .int .i64 b] w (Sorts base g cap (fun d' => PermIn a b d d') w) :=
  (reverseRange_walk base g cap a b d w hw hab hb hsz).mono fun _ _ ⟨he, d', hd, hS⟩ => ⟨he, d', by rw [hd]; exact reverseRange_holds d a b (by omega) hb, hS⟩
def PartInsW (base g cap a b : Nat) (d : Array Nat) (w : World) (e : Ending) (w' : World) : Prop := ∃ d', PermIn a b d d' ∧ SW base g cap w d' w' ∧ (e = .returned (.bool false) ∨ e = .returned (.bool true) ∧ SortedIn ltN a b d')
theorem pins_any (base g cap a b : Nat) (d : Array Nat) (w : World) (hw : OW base g cap d w) (hab : a < b) (hb : b ≤ d.size) (hsz : d.size ≤ 1000000) (hB : Sort.Below ltN a b d) :
    Calls Try.prog 72 #[.slice (some ⟨g, 0, none⟩) d.size cap, .int .i64 a, .int .i64 b] w (PartInsW base g cap a b d w) :=
  (partialInsertionSort_walk base g cap a b d w hw hab hb hsz).mono fun _ _ ⟨r, d', hr, he, hS⟩ => by
    obtain ⟨h1, h2⟩ := partialInsertionSort_holds (lt := ltN) swo d a b hab hb hB
    rw [hr] at h1 h2
    cases r with
    | false => exact ⟨d', h1, hS, .inl he⟩
    | true => exact ⟨d', h1, hS, .inr ⟨he, h2 rfl⟩⟩

/-- what the loop keeps: whatever sorted permutation of the part comes back, the whole is one -/
def Rest (a b a' b' : Nat) (d dk : Array Nat) : Prop := ∀ R, PermIn a' b' dk R → SortedIn ltN a' b' R → PermIn a b d R ∧ SortedIn ltN a b R
theorem Rest.perm {a b a' b' : Nat} {d dk d2 : Array Nat} (h : Rest a b a' b' d dk) (hp : PermIn a' b' dk d2) : Rest a b a' b' d d2 := fun R h1 h2 => h R (permIn_trans _ _ _ a' b' hp h1) h2

set_option maxRecDepth 100000 in
set_option maxHeartbeats 8000000 in
theorem pdq_step (n : Nat) (hn : ∀ m, m < n → PdqOk m) : PdqOk n := by
  intro base g cap a b lim d w hw hab hb hsz hbn hlim hB
  have HN := Lib.hid hn
  clear hn
  go_enter Try.func63, Try.ntmps63
  go_wp2
  go_loopg [1, 2, 3, 8, 9] (b - a) (fun k s1 s2 s3 s8 s9 wr => ∃ (a' b' lim : Nat) (wb wp : Bool) (dk : Array Nat), s1 = .int .i64 (a' : Int) ∧ s2 = .int .i64 (b' : Int) ∧ s3 = .int .i64 (lim : Int) ∧ s8 = .bool wb ∧ s9 = .bool wp ∧
    k = b' - a' ∧ a' ≤ b' ∧ b' ≤ d.size ∧ b' - a' ≤ n ∧ lim ≤ 1000 ∧ Hid (dk.size = d.size) ∧ Hid (Sort.Below ltN a' b' dk) ∧ SW base g cap w dk wr ∧ Hid (Rest a b a' b' d dk))
  case atStart => exact ⟨a, b, lim, true, true, d, rfl, rfl, rfl, rfl, rfl, rfl, hab, hb, hbn, hlim, Lib.hid rfl, Lib.hid hB, SW.refl hw, Lib.hid fun R h1 h2 => ⟨h1, h2⟩⟩
  case round =>
    clear hB hw hlim hbn
    obtain ⟨a', b', lim, wb, wp, dk, rfl, rfl, rfl, rfl, rfl, rfl, hab', hb', hbn, hlim, HDk, HB, hS, HR⟩ := hrel
    go_upto_region 2 with fail
    go_cut [10] from 19 to 133 (fun s10 wx => ∃ l : Nat, s10 = .int .i64 (l : Int) ∧ l + a' = b' ∧ SW base g cap w dk wx)
    case first =>
      go_wp2_with fail
      go_meet
      exact ⟨b' - a', by go_num, by omega, hS⟩
    case rest =>
      clear hS
      obtain ⟨l, rfl, hl, hS⟩ := hcut
      by_cases h12 : l ≤ 12
      · have h12z : (l : Int) ≤ 12 := by omega
        have hcall := insertionSort_any base g cap a' b' dk wc hS.1 hab' (by rw [HDk.out]; exact hb') (by rw [HDk.out]; omega)
        rw [HDk.out] at hcall
        have HC := Lib.hid hcall
        clear hcall
        go_wp2_with (first | (go_at_call 67; refine HC.out.mono ?_; rintro e w' ⟨rfl, d', hd', hS'⟩) | fail)
        go_end0
        exact ⟨rfl, d', HR.out d' hd'.1 hd'.2, hS.trans hS'⟩
      · have h12z : ¬ (l : Int) ≤ 12 := by omega
        have h12y : (12 : Int) < (l : Int) := by omega
        have hsz2 : dk.size ≤ 50000 := by rw [HDk.out]; exact hsz
        by_cases hl0 : lim = 0
        · subst hl0
          have hcall := heap_any base g cap a' b' dk wc hS.1 (by omega) (by rw [HDk.out]; exact hb') (by omega)
          rw [HDk.out] at hcall
          have HC := Lib.hid hcall
          clear hcall
          go_wp2_with (first | (go_at_call 68; refine HC.out.mono ?_; rintro e w' ⟨rfl, d', hd', hS'⟩) | fail)
          go_end0
          exact ⟨rfl, d', HR.out d' hd'.1 hd'.2, hS.trans hS'⟩
        · have hl0z : ((lim : Int) == 0) = false := by simp; omega
          have hl0y : ¬ (lim : Int) = 0 := by omega
          have hl1 : (1 : Int) ≤ (lim : Int) := by omega
          go_upto_if 35 with fail
          go_cut [3] from 19 to 133 (fun s3 wx => ∃ (lim : Nat) (d1 : Array Nat), s3 = .int .i64 (lim : Int) ∧ lim ≤ 1000 ∧ d1.size = d.size ∧ Hid (PermIn a' b' dk d1) ∧ SW base g cap w d1 wx)
          case first =>
            cases wb with
            | false =>
              have hcall := breakPatterns_any base g cap a' b' dk wc hS.1 (by omega) (by rw [HDk.out]; exact hb') (by omega)
              rw [HDk.out] at hcall
              have HC := Lib.hid hcall
              clear hcall
              go_wp2_with (first | (go_at_call 69; refine HC.out.mono ?_; rintro e w' ⟨rfl, d', hd', hS'⟩) | fail)
              go_meet
              exact ⟨lim - 1, d', by go_num, by omega, by rw [hd'.1, HDk.out], Lib.hid hd', hS.trans hS'⟩
            | true =>
              go_wp2_with fail
              go_meet
              exact ⟨lim, dk, rfl, hlim, HDk.out, Lib.hid (permIn_refl dk a' b'), hS⟩
          case rest =>
            clear hlim hl0 hl0z hl0y hl1 hS
            obtain ⟨lim, d1, rfl, hlim, hD1, HP1, hS⟩ := hcut
            have HD1 := Lib.hid hD1
            clear hD1
            have HB1 : Hid (Sort.Below ltN a' b' d1) := Lib.hid (HB.out.perm (by rw [HDk.out]; exact hb') HP1.out)
            have HR1 : Hid (Rest a b a' b' d d1) := Lib.hid (HR.out.perm HP1.out)
            clear HB HR HP1 HDk hsz2
            have hcall := choosePivot_any base g cap a' b' d1 wc hS.1 (by omega) (by rw [HD1.out]; exact hb') (by rw [HD1.out]; omega)
            rw [HD1.out] at hcall
            have HC := Lib.hid hcall
            clear hcall
            go_upto_region 10 with fail
            go_cut [11, 12] from 19 to 133 (fun s11 s12 wx => ∃ (p : Nat) (h : Int), s11 = .int .i64 (p : Int) ∧ s12 = .int .i64 h ∧ a' ≤ p ∧ p < b' ∧ SW base g cap w d1 wx)
            case first =>
              go_wp2_with (first | (go_at_call 70; refine HC.out.mono ?_; rintro e w' ⟨p, h, hp1, hp2, rfl, hS'⟩) | fail)
              go_meet
              exact ⟨p, h, rfl, rfl, hp1, hp2, hS.trans hS'⟩
            case rest =>
              clear hS HC
              obtain ⟨p, h, rfl, rfl, hp1, hp2, hS⟩ := hcut
              go_upto_if 50 with fail
              go_cut [11, 12] from 19 to 133 (fun s11 s12 wx => ∃ (p : Nat) (h : Int) (d2 : Array Nat), s11 = .int .i64 (p : Int) ∧ s12 = .int .i64 h ∧ a' ≤ p ∧ p < b' ∧ d2.size = d.size ∧ Hid (PermIn a' b' d1 d2) ∧ SW base g cap w d2 wx)
              case first =>
                cases hh : (h == 2) with
                | true =>
                  have hcall := rev_any base g cap a' b' d1 wc hS.1 (by omega) (by rw [HD1.out]; exact hb') (by rw [HD1.out]; omega)
                  rw [HD1.out] at hcall
                  have HC := Lib.hid hcall
                  clear hcall
                  go_wp2_with (first | (go_at_call 71; refine HC.out.mono ?_; rintro e w' ⟨rfl, d', hd', hS'⟩) | fail)
                  go_meet
                  exact ⟨(b' - 1) - (p - a'), 1, d', by go_num, rfl, by omega, by omega, by rw [hd'.1, HD1.out], Lib.hid hd', hS.trans hS'⟩
                | false =>
                  go_wp2_with fail
                  go_meet
                  exact ⟨p, h, d1, rfl, rfl, hp1, hp2, HD1.out, Lib.hid (permIn_refl d1 a' b'), hS⟩
              case rest =>
                clear hS hp1 hp2
                obtain ⟨p, h, d2, rfl, rfl, hp1, hp2, hD2, HP2, hS⟩ := hcut
                have HD2 := Lib.hid hD2
                clear hD2
                have HB2 : Hid (Sort.Below ltN a' b' d2) := Lib.hid (HB1.out.perm (by rw [HD1.out]; exact hb') HP2.out)
                have HR2 : Hid (Rest a b a' b' d d2) := Lib.hid (HR1.out.perm HP2.out)
                clear HB1 HR1 HP2 HD1
                go_upto_region 15 with fail
                go_cut [68] from 19 to 133 (fun s68 wx => ∃ c : Bool, s68 = .bool c ∧ SW base g cap w d2 wx)
                case first =>
                  cases wb <;> cases wp <;> cases hh : (h == 1)
                  all_goals
                    go_wp2_with fail
                    go_meet
                    exact ⟨_, rfl, hS⟩
                case rest =>
                  clear hS
                  obtain ⟨c, rfl, hS⟩ := hcut
                  go_upto_if 68 with fail
                  go_cut [] from 19 to 133 (fun wx => ∃ d3 : Array Nat, d3.size = d.size ∧ Hid (PermIn a' b' d2 d3) ∧ SW base g cap w d3 wx)
                  case first =>
                    cases c with
                    | false =>
                      go_wp2_with fail
                      go_meet
                      exact ⟨d2, HD2.out, Lib.hid (permIn_refl d2 a' b'), hS⟩
                    | true =>
                      have hcall := pins_any base g cap a' b' d2 wc hS.1 (by omega) (by rw [HD2.out]; exact hb') (by rw [HD2.out]; omega) HB2.out
                      rw [HD2.out] at hcall
                      have HC := Lib.hid hcall
                      clear hcall
                      go_wp2_with fail
                      refine HC.out.mono ?_
                      rintro e w' ⟨d', hd', hS', rfl | ⟨rfl, hso⟩⟩
                      · go_wp2_with fail
                        go_meet
                        exact ⟨d', by rw [hd'.1, HD2.out], Lib.hid hd', hS.trans hS'⟩
                      · go_wp2_with fail
                        go_end0
                        exact ⟨rfl, d', HR2.out d' hd' hso, hS.trans hS'⟩
                  case rest =>
                    clear hS
                    obtain ⟨d3, hD3, HP3, hS⟩ := hcut
                    have HD3 := Lib.hid hD3
                    clear hD3
                    have HB3 : Hid (Sort.Below ltN a' b' d3) := Lib.hid (HB2.out.perm (by rw [HD2.out]; exact hb') HP3.out)
                    have HR3 : Hid (Rest a b a' b' d d3) := Lib.hid (HR2.out.perm HP3.out)
                    clear HB2 HR2 HP3 HD2
                    go_upto_region 17 with fail
                    go_cut [87] from 19 to 133 (fun s87 wx => ∃ c : Bool, s87 = .bool c ∧ Hid (c = true → 0 < a' ∧ ltN d3[a' - 1]! d3[p]! = false) ∧ SW base g cap w d3 wx)
                    case first =>
                      rcases a' with _ | q
                      · go_quiet (fail)
                        go_wp2
                        go_meet
                        exact ⟨false, rfl, Lib.hid (fun h => by cases h), hS.drewN _⟩
                      · have hwj : IntKind.i64.wrap (q : Int) = (q : Int) := IntWalk.i64_in _ (by omega)
                        have c1 := hS.1.cell (i := q) (by rw [HD3.out]; omega)
                        have f1 := hS.1.frozen q
                        have c2 := hS.1.cell (i := p) (by rw [HD3.out]; omega)
                        have f2 := hS.1.frozen p
                        have b1 : (q : Int) < (d.size : Int) := by omega
                        have n1 : (0 : Int) ≤ (q : Int) := by omega
                        have b2 : (p : Int) < (d.size : Int) := by omega
                        have n2 : (0 : Int) ≤ (p : Int) := by omega
                        have hd1 : decide ((0 : Int) < (q : Int) + 1) = true := decide_eq_true (by omega)
                        go_quiet ((go_at_call 73; exact Calls.quiet_of_same (lessN rfl _)))
                        go_wp2
                        go_meet
                        exact ⟨_, rfl, Lib.hid (fun h => ⟨by omega, by simpa using h⟩), hS.drewN _⟩
                    case rest =>
                      clear hS
                      obtain ⟨c, rfl, HCc, hS⟩ := hcut
                      cases c with
                      | true =>
                        obtain ⟨ha0, hnl⟩ := HCc.out rfl
                        have HNL := Lib.hid hnl
                        clear hnl HCc
                        have hcall := partitionEqual_walk base g cap a' b' p d3 wc hS.1 hp1 hp2 (by rw [HD3.out]; exact hb') (by rw [HD3.out]; omega)
                        rw [HD3.out] at hcall
                        have HC := Lib.hid hcall
                        clear hcall
                        go_wp2_with fail
                        refine HC.out.mono ?_
                        rintro e w' ⟨m, d4, hx, rfl, hS'⟩
                        obtain ⟨r1, r2, r3, r4, r5⟩ := round_eq swo (partitionEqual_holds ltN) ha0 hp1 hp2 (by rw [HD3.out]; exact hb') HB3.out HNL.out hx
                        have HE : Hid (Sort.Below ltN m b' d4 ∧ Rest a b m b' d d4 ∧ d4.size = d.size) := Lib.hid ⟨r4, fun R h1 h2 => HR3.out R (r5 R h1 h2).1 (r5 R h1 h2).2, by rw [r3, HD3.out]⟩
                        clear r3 r4 r5 hx HNL HB3 HR3
                        go_wp2_with fail
                        go_roundg (b' - m)
                        case measure => omega
                        case rel => exact ⟨m, b', lim, wb, wp, d4, rfl, rfl, rfl, rfl, rfl, rfl, r2, hb', by omega, hlim, Lib.hid HE.out.2.2, Lib.hid HE.out.1, hS.trans hS', Lib.hid HE.out.2.1⟩
                      | false =>
                        clear HCc
                        have hcall := partition_walk base g cap a' b' p d3 wc hS.1 hp1 hp2 (by rw [HD3.out]; exact hb') (by rw [HD3.out]; omega)
                        rw [HD3.out] at hcall
                        have HC := Lib.hid hcall
                        clear hcall
                        go_wp2_with fail
                        refine HC.out.mono ?_
                        rintro e w' ⟨m, ap, d4, hx, rfl, hS'⟩
                        obtain ⟨r1, r2, r3, r4, r5, r6, r7⟩ := round_part swo (partition_holds ltN) hp1 hp2 (by rw [HD3.out]; exact hb') HB3.out hx
                        have HD4 : Hid (d4.size = d.size) := Lib.hid (by rw [r3, HD3.out])
                        have hS4 := hS.trans hS'
                        clear hS hS' r3 hx HC
                        by_cases hlr : m - a' < b' - m
                        · have hlrz : (m : Int) - (a' : Int) < (b' : Int) - (m : Int) := by omega
                          have hcall := HN.out (m - a') (by omega) base g cap a' m lim d4 w' hS4.1 r1 (by rw [HD4.out]; omega) (by rw [HD4.out]; exact hsz) (Nat.le_refl _) hlim r4
                          rw [HD4.out] at hcall
                          have HC := Lib.hid hcall
                          have H6 := Lib.hid r6
                          clear hcall r4 r5 r6 r7
                          go_wp2_with fail
                          refine HC.out.mono ?_
                          rintro e w5 ⟨rfl, d5, hd5, hS5⟩
                          obtain ⟨q1, q2⟩ := H6.out d5 hd5.1 hd5.2
                          have HE : Hid (Sort.Below ltN (m + 1) b' d5 ∧ Rest a b (m + 1) b' d d5 ∧ d5.size = d.size) := Lib.hid ⟨q1, fun R h1 h2 => HR3.out R (q2 R h1 h2).1 (q2 R h1 h2).2, by rw [hd5.1.1, HD4.out]⟩
                          clear q1 q2 hd5 H6
                          go_wp2_with fail
                          go_roundg (b' - (m + 1))
                          case measure => omega
                          case rel => exact ⟨m + 1, b', lim, _, ap, d5, by go_num, rfl, rfl, rfl, rfl, rfl, by omega, hb', by omega, hlim, Lib.hid HE.out.2.2, Lib.hid HE.out.1, hS4.trans hS5, Lib.hid HE.out.2.1⟩
                        · have hlrz : ¬ (m : Int) - (a' : Int) < (b' : Int) - (m : Int) := by omega
                          have hlry : (b' : Int) - (m : Int) ≤ (m : Int) - (a' : Int) := by omega
                          have hcall := HN.out (b' - (m + 1)) (by omega) base g cap (m + 1) b' lim d4 w' hS4.1 (by omega) (by rw [HD4.out]; omega) (by rw [HD4.out]; exact hsz) (Nat.le_refl _) hlim r5
                          rw [HD4.out] at hcall
                          have e1 : (((m + 1 : Nat) : Nat) : Int) = (m : Int) + 1 := by omega
                          rw [e1] at hcall
                          have HC := Lib.hid hcall
                          have H7 := Lib.hid r7
                          clear hcall r4 r5 r6 r7 e1
                          go_wp2_with fail
                          refine HC.out.mono ?_
                          rintro e w5 ⟨rfl, d5, hd5, hS5⟩
                          obtain ⟨q1, q2⟩ := H7.out d5 hd5.1 hd5.2
                          have HE : Hid (Sort.Below ltN a' m d5 ∧ Rest a b a' m d d5 ∧ d5.size = d.size) := Lib.hid ⟨q1, fun R h1 h2 => HR3.out R (q2 R h1 h2).1 (q2 R h1 h2).2, by rw [hd5.1.1, HD4.out]⟩
                          clear q1 q2 hd5 H7
                          go_wp2_with fail
                          go_roundg (m - a')
                          case measure => omega
                          case rel => exact ⟨a', m, lim, _, ap, d5, rfl, rfl, rfl, rfl, rfl, rfl, r1, by omega, by omega, hlim, Lib.hid HE.out.2.2, Lib.hid HE.out.1, hS4.trans hS5, Lib.hid HE.out.2.1⟩
theorem pdq_all (n : Nat) : PdqOk n := by
  induction n using Nat.strongRecOn with
  | _ n ih => exact pdq_step n ih

theorem sortOk900 : SortOk 900 := sort_of_pdq 900 (by omega) fun base g cap r d w hw hd hr => pdq_all d.size base g cap 0 d.size r d w hw (by omega) (Nat.le_refl _) (by omega) (by omega) hr (.inl rfl)
end Go.Proofs.Ytcdjjodiiaahfaa
