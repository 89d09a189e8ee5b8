/-
  fasciaref12: Parse.
-/
import Derived.Test.YtpmdecdjlegcnaaDoorFourRC
namespace Go.Proofs.YtpmdecdjlegcnaaDoor.Fou
open Go.RowKit

theorem rgo_prs {ps : List (List UInt8)} {n : Nat} (hn : ps.length = n) (h1 : 1 ≤ n) (h4 : n ≤ 4) : rgo (256 ^ (5 - n)) 0 ps = prs ps.reverse := by
  subst hn
  match ps, h1, h4 with
  | [a], _, _ => exact rgo_prs1 a
  | [a, b], _, _ => exact rgo_prs2 a b
  | [a, b, c], _, _ => exact rgo_prs3 a b c
  | [a, b, c, d], _, _ => exact rgo_prs4 a b c d
  | [], h1, _ => simp at h1
  | _ :: _ :: _ :: _ :: _ :: _, _, h4 => simp at h4
theorem bnd_last {n out m R : Nat} (h1 : 1 ≤ n) (h4 : n ≤ 4) (hR : R = 256 ^ (5 - n)) (ho : out < 256 ^ (n - 1)) (hm : m < R) : out * R + m < 4294967296 := by
  have hc : n = 1 ∨ n = 2 ∨ n = 3 ∨ n = 4 := by omega
  subst hR
  rcases hc with rfl | rfl | rfl | rfl <;> simp at * <;> omega
theorem bnd_mid {k n out m : Nat} (hk : k + 1 < n) (h4 : n ≤ 4) (ho : out < 256 ^ k) (hm : m < 256) : out * 256 + m < 256 ^ (k + 1) ∧ out * 256 + m < 4294967296 := by
  have hc : k = 0 ∨ k = 1 ∨ k = 2 := by omega
  rcases hc with rfl | rfl | rfl <;> simp at * <;> omega
theorem bnd_R {n R : Nat} (h1 : 1 ≤ n) (h4 : n ≤ 4) (hR : R = 256 ^ (5 - n)) : 256 ≤ R ∧ R ≤ 4294967296 := by
  have hc : n = 1 ∨ n = 2 ∨ n = 3 ∨ n = 4 := by omega
  subst hR
  rcases hc with rfl | rfl | rfl | rfl <;> decide
theorem bnd_start {n R : Nat} (h1 : 1 ≤ n) (h4 : n ≤ 4) (hR : R = 256 ^ (5 - n)) : 256 * 256 ^ (4 - n) = R := by
  have hc : n = 1 ∨ n = 2 ∨ n = 3 ∨ n = 4 := by omega
  subst hR
  rcases hc with rfl | rfl | rfl | rfl <;> rfl
theorem bnd_step {j r R : Nat} (hj : j < 4) (h : r * 256 ^ (4 - j) = R) (hR : R ≤ 4294967296) : r * 256 * 256 ^ (4 - (j + 1)) = R ∧ r * 256 ≤ 4294967296 := by
  have e : 256 ^ (4 - j) = 256 * 256 ^ (4 - (j + 1)) := by rw [show 4 - j = (4 - (j + 1)) + 1 by omega, Nat.pow_succ, Nat.mul_comm]
  rw [e, ← Nat.mul_assoc] at h
  refine ⟨h, ?_⟩
  have h1 : r * 256 * 1 ≤ r * 256 * 256 ^ (4 - (j + 1)) := Nat.mul_le_mul_left _ (Nat.pow_pos (by decide))
  omega
theorem rgo_step {R out : Nat} {PS : List (List UInt8)} {k : Nat} (hk : k < PS.length) : rgo R out (PS.drop k) = match num PS[k] with
    | none => none
    | some m => if m < (if k + 1 = PS.length then R else 256) then rgo R (out * (if k + 1 = PS.length then R else 256) + m) (PS.drop (k + 1)) else none := by
  rw [List.drop_eq_getElem_cons hk, rgo]
  cases num PS[k] with
  | none => rfl
  | some m =>
    have e : (PS.drop (k + 1) = []) = (k + 1 = PS.length) := by rw [List.drop_eq_nil_iff]; exact propext ⟨fun h => by omega, fun h => by omega⟩
    simp only [e]
set_option maxRecDepth 100000 in
set_option maxHeartbeats 4000000 in
theorem refParse_any (s : ByteArray) (w : World) (hs : s.size ≤ 1000000) : Calls Tryd.prog 12 #[.string s] w (Parsed (ans (dl s)) w) := by
  go_enter Tryd.func12, Tryd.ntmps12
  go_wp2_with fail
  refine (refParts_any s _ hs).mono ?_
  rintro e w1 ⟨A, c, ys, rfl, hcap, hrow, hys, hB⟩
  have hnb := parts_len hs hys
  have hne : 1 ≤ ys.length := by
    have := List.length_pos_iff.2 (spl_ne (trm (dl s)))
    rw [← hys, List.length_map] at this
    exact this
  obtain ⟨n, hn⟩ : ∃ n, ys.length = n := ⟨_, rfl⟩
  have hans : ans (dl s) = prs (ys.map dl).reverse := by rw [ans, rpt, hys]
  rw [hn] at hcap hnb hne ⊢
  by_cases hbig : 4 < n
  · have HA : Hid (ans (dl s) = none) := Lib.hid (by
      rw [hans, prs, pgo_long _ _ _ _ (by decide) (by rw [List.length_reverse, List.length_map, hn]; omega)]
      rfl)
    clear hans hys hn hrow hcap
    go_wp2_with fail
    go_ret2
    exact parsed_none HA.out hB
  have h4 : n ≤ 4 := by omega
  obtain ⟨R, hR⟩ : ∃ R, R = 256 ^ (5 - n) := ⟨_, rfl⟩
  have hRb := bnd_R hne h4 hR
  have hst := rgo_prs (ps := ys.map dl) (by rw [List.length_map]; exact hn) hne h4
  rw [← hR, ← hans] at hst
  have HR := Lib.hid hR
  have HST := Lib.hid hst
  have HN := Lib.hid hn
  obtain ⟨b, o, rfl, hb', hcc⟩ := hrow.at_ (by rw [List.length_map]; omega)
  have HC := Lib.hid hcc
  have HYZ : Hid (∀ k (h : k < ys.length), ys[k].size ≤ 1000000) := Lib.hid (fun k h => by
    have h1 : dl ys[k] ∈ spl (trm (dl s)) := by rw [← hys]; exact List.mem_map_of_mem (List.getElem_mem h)
    have h2 := spl_size _ _ h1
    have h3 := trm_size (dl s)
    rw [← Lib.size_eq] at h2 h3
    omega)
  clear hR hst hn hcc hans hys hrow hnb hbig
  go_wp2_with fail
  go_loopg [5, 6] n (fun m s5 s6 wr => ∃ k out : Nat, s6 = .int .i64 (k : Int) ∧ m = n - k ∧ s5 = .int .u64 (out : Int) ∧ k ≤ n ∧ Hid (rgo R out ((ys.map dl).drop k) = ans (dl s)) ∧ Hid ((k < n → out < 256 ^ k) ∧ out < 4294967296) ∧ Below w1.heap.size w1 wr)
  case atStart => exact ⟨0, 0, rfl, rfl, rfl, Nat.zero_le _, HST, Lib.hid ⟨fun _ => by decide, by decide⟩, Below.refl _ _⟩
  case round =>
    obtain ⟨k, out, rfl, rfl, rfl, hk, HG, HO, hBr⟩ := hrel
    by_cases hlt : k < n
    · have hkl : k < ys.length := by rw [HN.out]; exact hlt
      have hc0 : wr.cell? ⟨b, o + k, none⟩ = some (.string ys[k]) := by
        rw [hBr.cell (p := ⟨b, o + k, none⟩) hb', HC.out k (by rw [List.length_map]; exact hkl), List.getElem?_map, List.getElem?_eq_getElem hkl, Option.map_some]
      have hyz := HYZ.out k hkl
      have hgo := rgo_step (R := R) (out := out) (PS := ys.map dl) (k := k) (by rw [List.length_map]; exact hkl)
      rw [HG.out, List.getElem_map] at hgo
      generalize ys[k] = y at hc0 hyz hgo
      rw [List.length_map, HN.out] at hgo
      have HNu := Lib.hid (refNumber_any y wr hyz)
      have hob := HO.out.1 hlt
      have hltz : (k : Int) < (n : Int) := by omega
      cases hnum : num (dl y) with
      | none =>
        rw [hnum] at hgo HNu
        have HGo := Lib.hid hgo
        clear hgo hnum hob hyz
        go_wp2_with fail
        refine HNu.out.mono ?_
        rintro e w2 ⟨rfl, hB2⟩
        go_wp2_with fail
        go_ret2
        exact parsed_none HGo.out (hB.trans ((hBr.trans (hB2.mono hBr.size)).mono hB.size))
      | some m =>
        have hm32 := num_le hnum
        rw [hnum] at hgo HNu
        change ans (dl s) = (if m < (if k + 1 = n then R else 256) then rgo R (out * (if k + 1 = n then R else 256) + m) ((ys.map dl).drop (k + 1)) else none) at hgo
        by_cases hlast : k + 1 = n
        · rw [if_pos hlast] at hgo
          have hbe : ((k : Int) == (n : Int) - 1) = true := by simp; omega
          have hkn : n - 1 = k := by omega
          have HGo := Lib.hid hgo
          have HOB := Lib.hid hob
          clear hgo hnum hob hyz
          go_wp2_with fail
          refine HNu.out.mono ?_
          rintro e w2 ⟨rfl, hB2⟩
          clear hc0
          go_wp2_with fail
          go_loopg [9, 10] (4 - n) (fun m s9 s10 wx => ∃ j r : Nat, s10 = .int .i64 (j : Int) ∧ m = 4 - j ∧ s9 = .int .u64 (r : Int) ∧ j ≤ 4 ∧ r ≤ 4294967296 ∧ Hid (r * 256 ^ (4 - j) = R) ∧ w2 = wx)
          case atStart => exact ⟨n, 256, rfl, rfl, rfl, h4, by decide, Lib.hid (bnd_start hne h4 HR.out), rfl⟩
          case round =>
            obtain ⟨j, r, rfl, rfl, rfl, hj, hr, HJ, rfl⟩ := hrel
            by_cases hj4 : j < 4
            · have hstp := bnd_step hj4 HJ.out hRb.2
              have hr2 := hstp.2
              have HJ2 := Lib.hid hstp.1
              have hjz : (j : Int) < 4 := by omega
              clear hstp
              go_wp2_with fail
              go_roundg (4 - (j + 1))
              case measure => omega
              case rel => exact ⟨j + 1, r * 256, by go_num, rfl, by go_num, by omega, hr2, HJ2, rfl⟩
            · obtain rfl : j = 4 := by omega
              obtain rfl : r = R := by have := HJ.out; simpa using this
              by_cases hmr : m < r
              · have hbd := bnd_last hne h4 HR.out (by rw [hkn]; exact HOB.out) hmr
                have HGo2 := Lib.hid (HGo.out.trans (if_pos hmr))
                obtain ⟨p, hp⟩ : ∃ p, out * r = p := ⟨_, rfl⟩
                have hm : ((out : Int) * (r : Int)) = (p : Int) := by rw [← hp]; simp
                rw [hp] at hbd HGo2
                clear hp
                go_wp2_with fail
                go_roundg (n - (k + 1))
                case measure => omega
                case rel => exact ⟨k + 1, p + m, by go_num, rfl, by go_num, by omega, Lib.hid HGo2.out.symm, Lib.hid ⟨fun h => by omega, hbd⟩, hBr.trans (hB2.mono hBr.size)⟩
              · have HA : Hid (ans (dl s) = none) := Lib.hid (HGo.out.trans (if_neg hmr))
                go_wp2_with fail
                go_ret2
                exact parsed_none HA.out (hB.trans ((hBr.trans (hB2.mono hBr.size)).mono hB.size))
        · rw [if_neg hlast] at hgo
          have hbe : ((k : Int) == (n : Int) - 1) = false := beq_eq_false_iff_ne.2 (by omega)
          have HGo := Lib.hid hgo
          have HOB := Lib.hid hob
          clear hgo hnum hob hyz
          by_cases hmr : m < 256
          · have hbd := bnd_mid (k := k) (by omega) h4 HOB.out hmr
            have HGo2 := Lib.hid (HGo.out.trans (if_pos hmr))
            have HBD := Lib.hid hbd
            have hb2 := hbd.2
            clear hbd
            go_wp2_with fail
            refine HNu.out.mono ?_
            rintro e w2 ⟨rfl, hB2⟩
            go_wp2_with fail
            go_roundg (n - (k + 1))
            case measure => omega
            case rel => exact ⟨k + 1, out * 256 + m, by go_num, rfl, by go_num, by omega, Lib.hid HGo2.out.symm, Lib.hid ⟨fun _ => HBD.out.1, HBD.out.2⟩, hBr.trans (hB2.mono hBr.size)⟩
          · have HA : Hid (ans (dl s) = none) := Lib.hid (HGo.out.trans (if_neg hmr))
            go_wp2_with fail
            refine HNu.out.mono ?_
            rintro e w2 ⟨rfl, hB2⟩
            go_wp2_with fail
            go_ret2
            exact parsed_none HA.out (hB.trans ((hBr.trans (hB2.mono hBr.size)).mono hB.size))
    · obtain rfl : k = n := by omega
      have HA : Hid (ans (dl s) = some out) := Lib.hid (by
        rw [← HG.out, List.drop_of_length_le (by rw [List.length_map, HN.out]; exact Nat.le_refl _)]
        rfl)
      have ho : out < 4294967296 := HO.out.2
      clear HG
      go_wp2_with fail
      go_ret2
      exact parsed_some HA.out (hB.trans (hBr.mono hB.size))
end Go.Proofs.YtpmdecdjlegcnaaDoor.Fou
