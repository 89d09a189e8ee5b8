/-
  fasciaref12: Ends, Parse.
-/
import Derived.Test.YtpmdecdjlegcnaaDoorFourRB
import Derived.Test.YtpmdecdjlegcnaaDoorFourG
namespace Go.Proofs.YtpmdecdjlegcnaaDoor.Fou
open Go.RowKit

def isd (c : UInt8) : Bool := decide (48 ≤ c.toNat) && decide (c.toNat ≤ 57)
theorem ten_all (l : List UInt8) : (val 10 l).isSome = l.all isd := by
  rw [val, vgo_some]
  congr 1
  funext c
  exact dv_ten c
theorem lst_last {l : List UInt8} {ys : List ByteArray} {i : Nat} (h : ys.map dl = spl (trm l)) (hi : ys.length = i + 1) (hil : i < ys.length) : dl ys[i] = lst l := by
  have e : rpt (trm l) = dl ys[i] :: ((ys.take i).map dl).reverse := by
    rw [rpt, ← h]
    have : ys = ys.take i ++ [ys[i]] := by
      rw [← List.take_succ_eq_append_getElem hil, List.take_of_length_le (by omega)]
    conv => lhs; rw [this]
    rw [List.map_append, List.reverse_append]
    rfl
  exact (lst_of e).symm
theorem spl_len : ∀ l : List UInt8, (spl l).length ≤ l.length + 1
  | [] => by simp [spl]
  | c :: t => by
    have ih := spl_len t
    rw [spl]
    split
    · simp; exact ih
    · cases h : spl t with
      | nil => simp
      | cons p r => rw [h] at ih; simp at ih ⊢; omega
theorem parts_len {s : ByteArray} {ys : List ByteArray} (hs : s.size ≤ 1000000) (h : ys.map dl = spl (trm (dl s))) : ys.length ≤ 1000001 := by
  have h1 := spl_len (trm (dl s))
  have h2 := trm_size (dl s)
  rw [← h, List.length_map] at h1
  rw [← Lib.size_eq] at h2
  omega
set_option maxRecDepth 100000 in
set_option maxHeartbeats 4000000 in
theorem refEnds_any (s : ByteArray) (w : World) (hs : s.size ≤ 1000000) : Calls Tryd.prog 14 #[.string s] w (Says (ends (dl s)) w) := by
  go_enter Tryd.func14, Tryd.ntmps14
  go_wp2_with fail
  refine (refParts_any s _ hs).mono ?_
  rintro e w1 ⟨A, c, ys, rfl, hcap, hrow, hys, hB⟩
  have hnb := parts_len hs hys
  have hne : 0 < ys.length := by
    have := List.length_pos_iff.2 (spl_ne (trm (dl s)))
    rw [← hys, List.length_map] at this
    exact this
  obtain ⟨n, hn⟩ : ∃ n, ys.length = n := ⟨_, rfl⟩
  obtain ⟨i, hi⟩ : ∃ i, n = i + 1 := ⟨n - 1, by omega⟩
  have hil : i < ys.length := by omega
  have hlast := lst_last hys (hn.trans hi) hil
  obtain ⟨b, o, rfl, hb', hcc⟩ := hrow.at_ (by rw [List.length_map]; omega)
  have hc0 := hcc i (by rw [List.length_map]; exact hil)
  rw [List.getElem?_map, List.getElem?_eq_getElem hil, Option.map_some] at hc0
  have hz := lst_size (dl s)
  rw [← Lib.size_eq] at hz
  generalize ys[i] = y at hc0 hlast
  have hni : (n : Int) - 1 = (i : Int) := by omega
  have hin : i < n := by omega
  have hyz : y.size ≤ 1000000 := by
    rw [Lib.size_eq]
    show (dl y).length ≤ _
    rw [hlast]
    omega
  rw [hn] at hnb ⊢
  have HE : Hid (ends (dl s) = (!(dl y).isEmpty && ((val 10 (dl y)).isSome || (num (dl y)).isSome))) := Lib.hid (by rw [hlast]; rfl)
  have HYZ : Hid ((dl y).length = y.size) := Lib.hid (Lib.size_eq y).symm
  clear hcc hrow hlast hz hi hil hn hne hys hcap
  by_cases hy : dl y = []
  · have g1 : y.toList = [] := by rw [ByteArray.toList_eq]; exact hy
    have g2 : y.toList.isEmpty = true := by rw [g1]; rfl
    have HQ : Hid (ends (dl s) = false) := Lib.hid (by rw [HE.out, hy]; rfl)
    clear hy
    go_wp2_with fail
    go_ret
    exact says_mk HQ.out hB
  · have g1 : y.toList ≠ [] := by rw [ByteArray.toList_eq]; exact hy
    have g2 : y.toList.isEmpty = false := by rw [List.isEmpty_eq_false_iff]; exact g1
    have HQ : Hid (ends (dl s) = ((val 10 (dl y)).isSome || (num (dl y)).isSome)) := Lib.hid (by rw [HE.out, List.isEmpty_eq_false_iff.2 hy]; rfl)
    clear hy HE
    go_wp2_with fail
    clear hc0
    go_loop [5, 6] (fun s5 s6 => ∃ (k : Nat) (q : Bool), s6 = .int .i64 (k : Int) ∧ s5 = .bool q ∧ k ≤ y.size ∧ Hid (((dl y).take k).all isd = q)) (fun _ s6 => y.size - (intOf s6).toNat)
    case atStart => exact ⟨0, true, rfl, rfl, Nat.zero_le _, Lib.hid rfl⟩
    case round =>
      obtain ⟨k, q, rfl, rfl, hk, HA⟩ := hrel
      by_cases hlt : k < y.size
      · have hkl : k < (dl y).length := by rw [HYZ.out]; exact hlt
        have hge := get_dl hlt
        have hst : ((dl y).take (k + 1)).all isd = (q && isd (dl y)[k]) := by
          rw [take_snoc hkl, List.all_append, HA.out]
          simp
        generalize (dl y)[k] = x at hge hst
        have HG := Lib.hid hge
        have HST := Lib.hid hst
        clear hge hst
        cases q with
        | false =>
          have H2 : Hid (((dl y).take (k + 1)).all isd = false) := Lib.hid (by rw [HST.out]; rfl)
          go_wp2_with fail
          go_round
          case rel => exact ⟨k + 1, false, by go_num, rfl, by omega, H2⟩
          case measure => simp [intOf]; omega
        | true =>
          by_cases h48 : (48 : Int) ≤ (y[k].toNat : Int)
          · by_cases h57 : (y[k].toNat : Int) ≤ 57
            · have H2 : Hid (((dl y).take (k + 1)).all isd = true) := Lib.hid (by
                rw [HST.out, ← HG.out, isd, decide_eq_true (by omega), decide_eq_true (by omega)]; rfl)
              go_wp2_with fail
              go_round
              case rel => exact ⟨k + 1, true, by go_num, rfl, by omega, H2⟩
              case measure => simp [intOf]; omega
            · have H2 : Hid (((dl y).take (k + 1)).all isd = false) := Lib.hid (by
                rw [HST.out, ← HG.out, isd, decide_eq_true (by omega), decide_eq_false (by omega)]; rfl)
              go_wp2_with fail
              go_round
              case rel => exact ⟨k + 1, false, by go_num, rfl, by omega, H2⟩
              case measure => simp [intOf]; omega
          · have H2 : Hid (((dl y).take (k + 1)).all isd = false) := Lib.hid (by
              rw [HST.out, ← HG.out, isd, decide_eq_false (by omega)]; rfl)
            go_wp2_with fail
            go_round
            case rel => exact ⟨k + 1, false, by go_num, rfl, by omega, H2⟩
            case measure => simp [intOf]; omega
      · obtain rfl : k = y.size := by omega
        have hq : (val 10 (dl y)).isSome = q := by
          rw [ten_all, ← HA.out, List.take_of_length_le (by rw [HYZ.out]; exact Nat.le_refl _)]
        have HN := Lib.hid (refNumber_any y w1 hyz)
        obtain ⟨p, hp⟩ : ∃ p, num (dl y) = p := ⟨_, rfl⟩
        rw [hp] at HN
        have HR : Hid (ends (dl s) = (q || p.isSome)) := Lib.hid (by rw [HQ.out, hq, hp])
        clear hq hp HA
        cases q <;> cases p
        all_goals
          go_wp2_with fail
          refine HN.out.mono ?_
          rintro e w2 ⟨rfl, hB2⟩
          go_wp2_with fail
          go_ret
          exact says_mk HR.out (upB hB hB2)

/-- the address of parts, the first one first -/
def rgo (R : Nat) : Nat → List (List UInt8) → Option Nat
  | out, [] => some out
  | out, p :: t => match num p with
    | none => none
    | some m => if m < (if t = [] then R else 256) then rgo R (out * (if t = [] then R else 256) + m) t else none
theorem rgo_prs1 (a : List UInt8) : rgo 4294967296 0 [a] = prs [a] := by
  cases ha : num a with
  | none => simp [rgo, prs, pgo, ha]
  | some m => simp [rgo, prs, pgo, fit, ha]
theorem rgo_none {p : List UInt8} (h : num p = none) (R : Nat) : ∀ (ps : List (List UInt8)) (out : Nat), p ∈ ps → rgo R out ps = none
  | q :: t, out, hp => by
    rw [rgo]
    by_cases e : p = q
    · subst e; rw [h]
    · have hm : p ∈ t := by rcases List.mem_cons.1 hp with h1 | h1; exact absurd h1 e; exact h1
      cases hq : num q with
      | none => rfl
      | some m =>
        show (if m < (if t = [] then R else 256) then rgo R (out * (if t = [] then R else 256) + m) t else none) = none
        by_cases hc : m < (if t = [] then R else 256)
        · rw [if_pos hc]; exact rgo_none h R t _ hm
        · rw [if_neg hc]
set_option maxRecDepth 100000 in
set_option linter.unusedSimpArgs false in
theorem rgo_prs2 (a b : List UInt8) : rgo 16777216 0 [a, b] = prs [b, a] := by
  cases ha : num a with
  | none =>
    rw [show prs [b, a] = none by unfold prs; rw [pgo_none ha _ _ _ _ (by simp)]; rfl, rgo_none ha _ _ _ (by simp)]
  | some m =>
    cases hb : num b with
    | none =>
      rw [show prs [b, a] = none by unfold prs; rw [pgo_none hb _ _ _ _ (by simp)]; rfl, rgo_none hb _ _ _ (by simp)]
    | some k =>
      by_cases g0 : m < 256
      · skip
        simp [rgo, prs, pgo, fit, ha, hb, g0, (eq_false (by omega) : (255 < m) = False)]
      · skip
        simp [rgo, prs, pgo, fit, ha, hb, g0, (eq_true (by omega) : (255 < m) = True)]
set_option maxRecDepth 100000 in
set_option linter.unusedSimpArgs false in
theorem rgo_prs3 (a b c : List UInt8) : rgo 65536 0 [a, b, c] = prs [c, b, a] := by
  cases ha : num a with
  | none =>
    rw [show prs [c, b, a] = none by unfold prs; rw [pgo_none ha _ _ _ _ (by simp)]; rfl, rgo_none ha _ _ _ (by simp)]
  | some m =>
    cases hb : num b with
    | none =>
      rw [show prs [c, b, a] = none by unfold prs; rw [pgo_none hb _ _ _ _ (by simp)]; rfl, rgo_none hb _ _ _ (by simp)]
    | some k =>
      cases hc : num c with
      | none =>
        rw [show prs [c, b, a] = none by unfold prs; rw [pgo_none hc _ _ _ _ (by simp)]; rfl, rgo_none hc _ _ _ (by simp)]
      | some j =>
        by_cases g0 : m < 256
        · skip
          by_cases g1 : k < 256
          · skip
            simp [rgo, prs, pgo, fit, ha, hb, hc, g0, (eq_false (by omega) : (255 < m) = False), g1, (eq_false (by omega) : (255 < k) = False)]
            all_goals (split; (refine congrArg some ?_; omega); rfl)
          · skip
            simp [rgo, prs, pgo, fit, ha, hb, hc, g0, (eq_false (by omega) : (255 < m) = False), g1, (eq_true (by omega) : (255 < k) = True)]
        · skip
          by_cases g1 : k < 256
          · skip
            simp [rgo, prs, pgo, fit, ha, hb, hc, g0, (eq_true (by omega) : (255 < m) = True), g1, (eq_false (by omega) : (255 < k) = False)]
          · skip
            simp [rgo, prs, pgo, fit, ha, hb, hc, g0, (eq_true (by omega) : (255 < m) = True), g1, (eq_true (by omega) : (255 < k) = True)]
set_option maxRecDepth 100000 in
set_option linter.unusedSimpArgs false in
theorem rgo_prs4 (a b c d : List UInt8) : rgo 256 0 [a, b, c, d] = prs [d, c, b, a] := by
  cases ha : num a with
  | none =>
    rw [show prs [d, c, b, a] = none by unfold prs; rw [pgo_none ha _ _ _ _ (by simp)]; rfl, rgo_none ha _ _ _ (by simp)]
  | some m =>
    cases hb : num b with
    | none =>
      rw [show prs [d, c, b, a] = none by unfold prs; rw [pgo_none hb _ _ _ _ (by simp)]; rfl, rgo_none hb _ _ _ (by simp)]
    | some k =>
      cases hc : num c with
      | none =>
        rw [show prs [d, c, b, a] = none by unfold prs; rw [pgo_none hc _ _ _ _ (by simp)]; rfl, rgo_none hc _ _ _ (by simp)]
      | some j =>
        cases hd : num d with
        | none =>
          rw [show prs [d, c, b, a] = none by unfold prs; rw [pgo_none hd _ _ _ _ (by simp)]; rfl, rgo_none hd _ _ _ (by simp)]
        | some l =>
          by_cases g0 : m < 256
          · skip
            by_cases g1 : k < 256
            · skip
              by_cases g2 : j < 256
              · skip
                simp [rgo, prs, pgo, fit, ha, hb, hc, hd, g0, (eq_false (by omega) : (255 < m) = False), g1, (eq_false (by omega) : (255 < k) = False), g2, (eq_false (by omega) : (255 < j) = False)]
                all_goals (split; (refine congrArg some ?_; omega); rfl)
              · skip
                simp [rgo, prs, pgo, fit, ha, hb, hc, hd, g0, (eq_false (by omega) : (255 < m) = False), g1, (eq_false (by omega) : (255 < k) = False), g2, (eq_true (by omega) : (255 < j) = True)]
            · skip
              by_cases g2 : j < 256
              · skip
                simp [rgo, prs, pgo, fit, ha, hb, hc, hd, g0, (eq_false (by omega) : (255 < m) = False), g1, (eq_true (by omega) : (255 < k) = True), g2, (eq_false (by omega) : (255 < j) = False)]
              · skip
                simp [rgo, prs, pgo, fit, ha, hb, hc, hd, g0, (eq_false (by omega) : (255 < m) = False), g1, (eq_true (by omega) : (255 < k) = True), g2, (eq_true (by omega) : (255 < j) = True)]
          · skip
            by_cases g1 : k < 256
            · skip
              by_cases g2 : j < 256
              · skip
                simp [rgo, prs, pgo, fit, ha, hb, hc, hd, g0, (eq_true (by omega) : (255 < m) = True), g1, (eq_false (by omega) : (255 < k) = False), g2, (eq_false (by omega) : (255 < j) = False)]
              · skip
                simp [rgo, prs, pgo, fit, ha, hb, hc, hd, g0, (eq_true (by omega) : (255 < m) = True), g1, (eq_false (by omega) : (255 < k) = False), g2, (eq_true (by omega) : (255 < j) = True)]
            · skip
              by_cases g2 : j < 256
              · skip
                simp [rgo, prs, pgo, fit, ha, hb, hc, hd, g0, (eq_true (by omega) : (255 < m) = True), g1, (eq_true (by omega) : (255 < k) = True), g2, (eq_false (by omega) : (255 < j) = False)]
              · skip
                simp [rgo, prs, pgo, fit, ha, hb, hc, hd, g0, (eq_true (by omega) : (255 < m) = True), g1, (eq_true (by omega) : (255 < k) = True), g2, (eq_true (by omega) : (255 < j) = True)]
end Go.Proofs.YtpmdecdjlegcnaaDoor.Fou
