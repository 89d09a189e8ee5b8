/-
  The contract of the document's own answer for layer 1: Codes.
-/
import Derived.Test.YtignohjphblpdaaUtfRefC
namespace Go.Proofs.Ytignohjphblpdaa
open Go.RowKit Utf

def RRel (bs : List Int) (w : World) (o i : Value) (wr : World) : Prop :=
  ∃ (pre : List Cd) (p : Nat), p ≤ bs.length ∧ i = .int .i64 p ∧ codes bs = pre ++ codesAt bs p ∧ wr.ownsRow w.heap.size 37 3 o pre.length (cdc pre) ∧ Below w.heap.size w wr

/-- as many bytes as go on -/
theorem max_go (bs : List Int) : ∃ K, K ≤ bs.length ∧ (∀ q, 1 ≤ q → q ≤ K → goesM (bs.take q) = true) ∧ (K = bs.length ∨ goesM (bs.take (K + 1)) = false) := by
  have main : ∀ d K, bs.length - K ≤ d → K ≤ bs.length → (∀ q, 1 ≤ q → q ≤ K → goesM (bs.take q) = true) → ∃ K, K ≤ bs.length ∧ (∀ q, 1 ≤ q → q ≤ K → goesM (bs.take q) = true) ∧ (K = bs.length ∨ goesM (bs.take (K + 1)) = false) := by
    intro d
    induction d with
    | zero => exact fun K h1 h2 h3 => ⟨K, h2, h3, .inl (by omega)⟩
    | succ d ih =>
      intro K h1 h2 h3
      by_cases e : K = bs.length
      · exact ⟨K, h2, h3, .inl e⟩
      · cases hg : goesM (bs.take (K + 1)) with
        | false => exact ⟨K, h2, h3, .inr hg⟩
        | true =>
          refine ih (K + 1) (by omega) (by omega) (fun q a b => ?_)
          by_cases hq : q ≤ K
          · exact h3 q a hq
          · obtain rfl : q = K + 1 := by omega
            exact hg
  exact main bs.length 0 (by omega) (by omega) (fun q a b => by omega)

theorem RCodes_step {bs : List Int} {pre : List Cd} {p : Nat} {r : Int} {sz : Nat} {ok : Bool} (h : codes bs = pre ++ codesAt bs p) (hp : p < bs.length) (hf : firstC (bs.drop p) = (r, sz, ok)) :
    codes bs = (pre ++ [(r, p, p + sz, ok)]) ++ codesAt bs (p + sz) := by
  rw [h, codesAt_step bs hp, hf, List.append_assoc]
  rfl
theorem cdc_next (pre : List Cd) (r : Int) (p sz : Nat) (ok : Bool) : cdc (pre ++ [(r, p, p + sz, ok)]) = cdc pre ++ [.int .i32 r, .int .i64 (p : Int), .int .i64 ((p : Int) + (sz : Int))] := by
  rw [cdc_snoc]
  simp

set_option maxRecDepth 100000 in
set_option maxHeartbeats 1600000 in
theorem RCodes_any (bs : List Int) (A : Option Addr) (n c : Nat) (w : World) (hn : bs.length = n) (hcap : n ≤ c) (hm : n ≤ 100000) (hby : Byt bs) (hr : Row w w.heap.size A (cl .u8 bs)) :
    Calls Try.prog 14 #[.slice A n c] w (OutRow (codes bs).length (c3 ((codes bs).map tri)) w) := by
  obtain ⟨i0, hi, hz0, hz1, hz2⟩ := info_parts info_cd
  have HN := Lib.hid hn
  have HBY := Lib.hid hby
  clear hn hby
  go_enter Try.func14, Try.ntmps14
  go_wp2
  go_loopw [3, 4] (fun o i wr => RRel bs w o i wr) (fun _ i _ => n - (intOf i).toNat)
  case atStart => exact ⟨[], 0, Nat.zero_le _, rfl, by rw [codes_eq]; rfl, World.ownsRow_nil _ _ _ _, Below.refl _ _⟩
  case round =>
    obtain ⟨pre, p, hp, rfl, hcd, hown, hB⟩ := hrel
    rw [HN.out] at hp
    have HCD := Lib.hid hcd
    clear hcd
    by_cases hlt : p < n
    · have hpl : p < bs.length := by rw [HN.out]; exact hlt
      have hne := drop_ne hpl
      have hbd := HBY.out.drop p
      have hld : (bs.drop p).length = n - p := by rw [List.length_drop, HN.out]
      have hsz := hB.size
      have hrow := hr.below hB
      have hpre : pre.length < n := by have := pre_lt HCD.out hpl; rwa [HN.out] at this
      obtain ⟨K, hK1, hK2, hK3⟩ := max_go (bs.drop p)
      rw [hld] at hK1
      have hrf := ref_first hbd hne (k := K) (by rw [hld]; exact hK1) hK2 (fun y hy => by
        rcases hK3 with e | e
        · rw [List.getElem?_eq_none (by omega)] at hy; cases hy
        · rw [take_snoc hy] at e; exact e)
      -- the slices that are asked
      have hsub : ∀ q, p + q ≤ n → Row wr wr.heap.size (Option.map (fun x => x.add p) A) (cl .u8 ((bs.drop p).take q)) := fun q hq => by
        have h := (hrow.sub (l := p) (n := q) (cap := c) (m := p) (by simp [HN.out]; omega) (by omega)).2 rfl
        rw [← List.map_drop, ← List.map_take] at h
        exact h.mono hsz
      obtain ⟨b, off, rfl, hbl, hcl⟩ := hrow.at_ (by simp; omega)
      have hcell := hcl p (by simp; omega)
      rw [cl_get _ _ _ hpl] at hcell
      obtain ⟨c0, hc0⟩ : ∃ c0, bs[p] = c0 := ⟨_, rfl⟩
      rw [hc0] at hcell
      have hg0 : (bs.drop p).getD 0 0 = c0 := by
        rw [List.getD, List.getElem?_drop, Nat.add_zero, List.getElem?_eq_getElem hpl, hc0]
        rfl
      have hcr : 0 ≤ c0 ∧ c0 ≤ 255 := by rw [← hc0]; exact HBY.out _ (List.getElem_mem _)
      rw [hg0] at hrf
      have hlg : lng c0 ≤ 4 := by unfold lng; (repeat' split) <;> omega
      have hasklong := fun W => long_any c0 W hcr.1 hcr.2
      obtain ⟨m, hmL⟩ : ∃ m, lng c0 = m := ⟨_, rfl⟩
      rw [hmL] at hrf hlg hasklong
      have hsub' : ∀ q, p + q ≤ n → Row wr wr.heap.size (some ⟨b, off + p, none⟩) (cl .u8 ((bs.drop p).take q)) := fun q hq => by
        have h := hsub q hq
        rw [Option.map_some, Go.WideShapes.add_plain] at h
        exact h
      have HS := Lib.hid hsub'
      have HK2 := Lib.hid hK2
      have HK3 := Lib.hid hK3
      have HBD := Lib.hid hbd
      have HRF := Lib.hid hrf
      have HLG := Lib.hid hasklong
      have HOWN := Lib.hid hown
      have HR := Lib.hid hr
      clear hsub hsub' hK2 hK3 hbd hrf hasklong hrow hcl hc0 hg0 hmL hr hne hld
      by_cases hfull : 0 < K ∧ m = K
      · have hm : m = K := hfull.2
        subst hm
        have hF := HRF.out.1 hfull
        have hnum := number_any ((bs.drop p).take m) _ m (c - p) m 0 wr (by rw [List.length_take, List.length_drop, HN.out]; omega) (by omega) (by omega) (HBD.out.take _) (HS.out m (by omega)) (by omega) (by omega) (by omega)
        obtain ⟨x, hx⟩ : ∃ x, num ((bs.drop p).take m) m 0 = x := ⟨_, rfl⟩
        rw [hx] at hF hnum
        have hxs := (first_true HBD.out hF).1
        rw [sca_iff] at hxs
        have hx0 : 0 ≤ x := hxs.1
        have hx1 : x ≤ 1114111 := hxs.2.1
        have HF := Lib.hid hF
        have HNUM := Lib.hid hnum
        have q1 : ((m : Int) == (m : Int)) = true := by simp
        have h0K : 0 < m := hfull.1
        clear hx hF hnum hxs hfull
        go_wp2
        go_loop [5] (fun kv => ∃ k : Nat, k ≤ m ∧ kv = .int .i64 k) (fun kv => n - (intOf kv).toNat)
        case atStart => exact ⟨0, by omega, rfl⟩
        case round =>
          obtain ⟨k, hk, rfl⟩ := hrel
          by_cases hkK : k < m
          · have hgo : goesM ((bs.drop p).take (k + 1)) = true := HK2.out _ (by omega) (by omega)
            have hcall := goes_any ((bs.drop p).take (k + 1)) _ (p + k + 1 - p) (c - p) wr (by rw [List.length_take, List.length_drop, HN.out]; omega) (by omega) (HBD.out.take _) (HS.out (k + 1) (by omega))
            rw [hgo] at hcall
            have HCALL := Lib.hid hcall
            clear hcall hgo
            go_wp2_with fail
            refine HCALL.out.mono ?_
            rintro e w' ⟨rfl, rfl⟩
            go_wp2
            go_round
            case rel => exact ⟨k + 1, by omega, by go_num⟩
            case measure => simp [intOf]; omega
          · obtain rfl : k = m := by omega
            by_cases hend : p + k < n
            · have hgo : goesM ((bs.drop p).take (k + 1)) = false := by
                rcases HK3.out with e | e
                · rw [List.length_drop, HN.out] at e; omega
                · exact e
              have hcall := goes_any ((bs.drop p).take (k + 1)) _ (p + k + 1 - p) (c - p) wr (by rw [List.length_take, List.length_drop, HN.out]; omega) (by omega) (HBD.out.take _) (HS.out (k + 1) (by omega))
              rw [hgo] at hcall
              have HCALL := Lib.hid hcall
              clear hcall hgo
              go_wp2_with fail
              refine HCALL.out.mono ?_
              rintro e w' ⟨rfl, rfl⟩
              go_wp2_with fail
              refine (HLG.out _).mono ?_
              rintro e w' ⟨rfl, rfl⟩
              go_wp2_with fail
              refine HNUM.out.mono ?_
              rintro e w' ⟨rfl, rfl⟩
              go_wp2_with (at_builtin; refine wpList_append_own_at _ rfl _ _ 27 rfl w.heap.size 37 i0 (.agg #[.int .i32 0, .int .i64 0, .int .i64 0]) 3 24 Try.underlying27 hi hz0 hz1 hz2 rfl (by decide) _ _ _ rfl (HOWN.out.alloc _) ⟨wr.heap.size, 0, none⟩ 1 1 _ rfl (by rfl) (news_new _ _ _ _ rfl) (by simp [Value.oneCell']) (by unfold maxLen; omega) (by omega) (by simp; omega) ?_; intro v' w1 hown1 hgrow1 _ _)
              go_roundw
              case rel => exact ⟨pre ++ [(x, p, p + k, true)], p + k, by rw [HN.out]; omega, by go_num, RCodes_step HCD.out hpl HF.out, by rw [cdc_next, List.length_append]; exact hown1, (hB.alloc hsz _).grown hgrow1 (by simp; omega) (fun j e => (HOWN.out.lt j e).1)⟩
              case measure => simp [intOf]; omega
            · go_wp2_with fail
              refine (HLG.out _).mono ?_
              rintro e w' ⟨rfl, rfl⟩
              go_wp2_with fail
              refine HNUM.out.mono ?_
              rintro e w' ⟨rfl, rfl⟩
              go_wp2_with (at_builtin; refine wpList_append_own_at _ rfl _ _ 27 rfl w.heap.size 37 i0 (.agg #[.int .i32 0, .int .i64 0, .int .i64 0]) 3 24 Try.underlying27 hi hz0 hz1 hz2 rfl (by decide) _ _ _ rfl (HOWN.out.alloc _) ⟨wr.heap.size, 0, none⟩ 1 1 _ rfl (by rfl) (news_new _ _ _ _ rfl) (by simp [Value.oneCell']) (by unfold maxLen; omega) (by omega) (by simp; omega) ?_; intro v' w1 hown1 hgrow1 _ _)
              go_roundw
              case rel => exact ⟨pre ++ [(x, p, p + k, true)], p + k, by rw [HN.out]; omega, by go_num, RCodes_step HCD.out hpl HF.out, by rw [cdc_next, List.length_append]; exact hown1, (hB.alloc hsz _).grown hgrow1 (by simp; omega) (fun j e => (HOWN.out.lt j e).1)⟩
              case measure => simp [intOf]; omega
      by_cases hK0 : K = 0
      · have hF := HRF.out.2 hfull
        rw [if_pos hK0] at hF
        have HF := Lib.hid hF
        have hKle : K ≤ 0 := by omega
        have q2 : ((K : Int) == 0) = true := by simp; omega
        clear hF hfull hK0
        go_wp2
        go_loop [5] (fun kv => ∃ k : Nat, k ≤ K ∧ kv = .int .i64 k) (fun kv => n - (intOf kv).toNat)
        case atStart => exact ⟨0, by omega, rfl⟩
        case round =>
          obtain ⟨k, hk, rfl⟩ := hrel
          by_cases hkK : k < K
          · exfalso; omega
          · obtain rfl : k = K := by omega
            by_cases hend : p + k < n
            · have hgo : goesM ((bs.drop p).take (k + 1)) = false := by
                rcases HK3.out with e | e
                · rw [List.length_drop, HN.out] at e; omega
                · exact e
              have hcall := goes_any ((bs.drop p).take (k + 1)) _ (p + k + 1 - p) (c - p) wr (by rw [List.length_take, List.length_drop, HN.out]; omega) (by omega) (HBD.out.take _) (HS.out (k + 1) (by omega))
              rw [hgo] at hcall
              have HCALL := Lib.hid hcall
              clear hcall hgo
              go_wp2_with fail
              refine HCALL.out.mono ?_
              rintro e w' ⟨rfl, rfl⟩
              go_wp2_with (at_builtin; refine wpList_append_own_at _ rfl _ _ 27 rfl w.heap.size 37 i0 (.agg #[.int .i32 0, .int .i64 0, .int .i64 0]) 3 24 Try.underlying27 hi hz0 hz1 hz2 rfl (by decide) _ _ _ rfl (HOWN.out.alloc _) ⟨wr.heap.size, 0, none⟩ 1 1 _ rfl (by rfl) (news_new _ _ _ _ rfl) (by simp [Value.oneCell']) (by unfold maxLen; omega) (by omega) (by simp; omega) ?_; intro v' w1 hown1 hgrow1 _ _)
              go_roundw
              case rel => exact ⟨pre ++ [(65533, p, p + 1, false)], p + 1, by rw [HN.out]; omega, by go_num, RCodes_step HCD.out hpl HF.out, by rw [cdc_next, List.length_append]; exact hown1, (hB.alloc hsz _).grown hgrow1 (by simp; omega) (fun j e => (HOWN.out.lt j e).1)⟩
              case measure => simp [intOf]; omega
            · exfalso; omega
      · have hF := HRF.out.2 hfull
        rw [if_neg hK0] at hF
        have HF := Lib.hid hF
        have h0K : 0 < K := by omega
        have q1 : ((m : Int) == (K : Int)) = false := by simp; omega
        have q2 : ((K : Int) == 0) = false := by simp; omega
        clear hF hfull hK0
        go_wp2
        go_loop [5] (fun kv => ∃ k : Nat, k ≤ K ∧ kv = .int .i64 k) (fun kv => n - (intOf kv).toNat)
        case atStart => exact ⟨0, by omega, rfl⟩
        case round =>
          obtain ⟨k, hk, rfl⟩ := hrel
          by_cases hkK : k < K
          · have hgo : goesM ((bs.drop p).take (k + 1)) = true := HK2.out _ (by omega) (by omega)
            have hcall := goes_any ((bs.drop p).take (k + 1)) _ (p + k + 1 - p) (c - p) wr (by rw [List.length_take, List.length_drop, HN.out]; omega) (by omega) (HBD.out.take _) (HS.out (k + 1) (by omega))
            rw [hgo] at hcall
            have HCALL := Lib.hid hcall
            clear hcall hgo
            go_wp2_with fail
            refine HCALL.out.mono ?_
            rintro e w' ⟨rfl, rfl⟩
            go_wp2
            go_round
            case rel => exact ⟨k + 1, by omega, by go_num⟩
            case measure => simp [intOf]; omega
          · obtain rfl : k = K := by omega
            by_cases hend : p + k < n
            · have hgo : goesM ((bs.drop p).take (k + 1)) = false := by
                rcases HK3.out with e | e
                · rw [List.length_drop, HN.out] at e; omega
                · exact e
              have hcall := goes_any ((bs.drop p).take (k + 1)) _ (p + k + 1 - p) (c - p) wr (by rw [List.length_take, List.length_drop, HN.out]; omega) (by omega) (HBD.out.take _) (HS.out (k + 1) (by omega))
              rw [hgo] at hcall
              have HCALL := Lib.hid hcall
              clear hcall hgo
              go_wp2_with fail
              refine HCALL.out.mono ?_
              rintro e w' ⟨rfl, rfl⟩
              go_wp2_with fail
              refine (HLG.out _).mono ?_
              rintro e w' ⟨rfl, rfl⟩
              go_wp2_with (at_builtin; refine wpList_append_own_at _ rfl _ _ 27 rfl w.heap.size 37 i0 (.agg #[.int .i32 0, .int .i64 0, .int .i64 0]) 3 24 Try.underlying27 hi hz0 hz1 hz2 rfl (by decide) _ _ _ rfl (HOWN.out.alloc _) ⟨wr.heap.size, 0, none⟩ 1 1 _ rfl (by rfl) (news_new _ _ _ _ rfl) (by simp [Value.oneCell']) (by unfold maxLen; omega) (by omega) (by simp; omega) ?_; intro v' w1 hown1 hgrow1 _ _)
              go_roundw
              case rel => exact ⟨pre ++ [(65533, p, p + k, false)], p + k, by rw [HN.out]; omega, by go_num, RCodes_step HCD.out hpl HF.out, by rw [cdc_next, List.length_append]; exact hown1, (hB.alloc hsz _).grown hgrow1 (by simp; omega) (fun j e => (HOWN.out.lt j e).1)⟩
              case measure => simp [intOf]; omega
            · go_wp2_with fail
              refine (HLG.out _).mono ?_
              rintro e w' ⟨rfl, rfl⟩
              go_wp2_with (at_builtin; refine wpList_append_own_at _ rfl _ _ 27 rfl w.heap.size 37 i0 (.agg #[.int .i32 0, .int .i64 0, .int .i64 0]) 3 24 Try.underlying27 hi hz0 hz1 hz2 rfl (by decide) _ _ _ rfl (HOWN.out.alloc _) ⟨wr.heap.size, 0, none⟩ 1 1 _ rfl (by rfl) (news_new _ _ _ _ rfl) (by simp [Value.oneCell']) (by unfold maxLen; omega) (by omega) (by simp; omega) ?_; intro v' w1 hown1 hgrow1 _ _)
              go_roundw
              case rel => exact ⟨pre ++ [(65533, p, p + k, false)], p + k, by rw [HN.out]; omega, by go_num, RCodes_step HCD.out hpl HF.out, by rw [cdc_next, List.length_append]; exact hown1, (hB.alloc hsz _).grown hgrow1 (by simp; omega) (fun j e => (HOWN.out.lt j e).1)⟩
              case measure => simp [intOf]; omega
    · obtain rfl : p = n := by omega
      go_wp2
      go_ret
      rw [codesAt_end bs (by rw [HN.out]; omega), List.append_nil] at HCD
      rw [← HCD.out] at hown
      obtain ⟨A1, c1, hv, hc1, hr1⟩ := own_form hown
      exact ⟨A1, c1, ret_val hv, hc1, by rw [← cdc_c3]; exact hr1, hB⟩

end Go.Proofs.Ytignohjphblpdaa
