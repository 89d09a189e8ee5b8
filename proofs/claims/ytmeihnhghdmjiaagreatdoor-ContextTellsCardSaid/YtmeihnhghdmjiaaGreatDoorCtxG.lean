/-
  context: Check.
-/
import Derived.Test.YtmeihnhghdmjiaaGreatDoorCtxF
namespace Go.Proofs.YtmeihnhghdmjiaaGreatDoor.Ctx
open Go.RowKit Go.Maps Ucd

def chkF (l : List Int) : Nat → Nat → Int
  | 0, _ => 0
  | f + 1, k => if atC l k = 0 then chkF l f (k + 1) else atC l k
/-- what Check answers: the first place's clause -/
def chkC (l : List Int) : Int := chkF l l.length 0
theorem chk_from {l : List Int} : ∀ k, k ≤ l.length → (∀ j, j < k → atC l j = 0) → chkC l = chkF l (l.length - k) k
  | 0, _, _ => rfl
  | k + 1, hk, h => by
    rw [chk_from k (by omega) (fun j hj => h j (by omega)), show l.length - k = (l.length - (k + 1)) + 1 from by omega, chkF, if_pos (h k (by omega))]
theorem chk_at {l : List Int} {k : Nat} (hk : k < l.length) (h : atC l k ≠ 0) (hn : ∀ j, j < k → atC l j = 0) : chkC l = atC l k := by
  rw [chk_from k (by omega) hn, show l.length - k = (l.length - (k + 1)) + 1 from by omega, chkF, if_neg h]
theorem chk_none {l : List Int} (hn : ∀ j, j < l.length → atC l j = 0) : chkC l = 0 := by
  rw [chk_from l.length (Nat.le_refl _) hn, Nat.sub_self]; rfl
theorem cls_ne (k : Nat) : cls k ≠ 0 := by unfold cls; split; · decide
                                           · split <;> decide

/-- a condition of the whole label -/
def okw (l : List Int) (k : Nat) : Bool := ok l 0 k
theorem okw_any (l : List Int) (i : Nat) : ∀ k, 5 ≤ k → ok l i k = okw l k
  | 0, h | 1, h | 2, h | 3, h | 4, h => by omega
  | 5, _ | 6, _ | _ + 7, _ => rfl
/-- what is left of the conditions -/
def Lft (l : List Int) (D : DataW Value) : Prop := IsMap D ∧ ∀ q,
  (has D (ki q) = true → kdK q < 8 ∧ D.atKey (ki q) (.held cz) = .held (cv (kdK q))) ∧
  (has D (ki q) = false → 8 ≤ kdK q ∨ (5 ≤ kdK q ∧ okw l (kdK q) = true))
theorem lft9 (l : List Int) : Lft l D9 := by
  refine ⟨by rw [D9_eq]; exact ⟨_, rfl⟩, fun q => ⟨fun h => ?_, fun h => ?_⟩⟩
  · have h8 : kdK q < 8 := of_decide_eq_true ((D9_at q).2.symm.trans h)
    exact ⟨h8, by rw [(D9_at q).1, if_pos h8]⟩
  · have h8 : ¬ kdK q < 8 := of_decide_eq_false ((D9_at q).2.symm.trans h)
    exact .inl (by omega)
theorem lft_del {l : List Int} {D : DataW Value} (h : Lft l D) {p : Int} (h5 : 5 ≤ kdK p) (ho : okw l (kdK p) = true) : Lft l (D.del (ki p)) := by
  refine ⟨h.1.del _, fun q => ?_⟩
  by_cases e : q = p
  · subst e
    refine ⟨fun hh => ?_, fun _ => .inr ⟨h5, ho⟩⟩
    rw [has_del_same] at hh
    cases hh
  · have hne : ki q ≠ ki p := fun x => e (Lit.int.inj x).2
    rw [has_del_other hne, atKey_del_other hne]
    exact h.2 q
theorem atKey_none {D : DataW Value} {k : Lit} {z : DataW Value} (hD : IsMap D) (h : has D k = false) : D.atKey k z = z := by
  obtain ⟨es, rfl⟩ := hD
  rw [has_eq] at h
  have : es.find? (fun p => p.1.sameKey k) = none := by
    rw [List.find?_eq_none]
    intro x hx hh
    have := List.any_eq_false.1 h x hx
    rw [hh] at this
    exact this rfl
  unfold DataW.atKey
  simp only [this]
theorem kd_key (r : Int) : kd r = kdK (kyv r) := rfl
set_option maxRecDepth 100000 in
set_option maxHeartbeats 2000000 in
theorem Check_any (l : List Int) (A : Option Addr) (n c : Nat) (w : World) (hn : l.length = n) (hn1 : n ≤ 1000000) (hC : C32 l) (hr : Row w w.heap.size A (cl .i32 l)) : Calls Tryz.prog 7 #[.slice A n c] w (Tells (.int .u8 (chkC l)) w) := by
  have HN := Lib.hid hn
  have HCC := Lib.hid hC
  have HC := Lib.hid conditions_any
  obtain ⟨B, hBe⟩ : ∃ B, w.heap.size = B := ⟨_, rfl⟩
  rw [hBe] at hr
  have HBE := Lib.hid hBe
  have HC := Lib.hid (hBe ▸ conditions_any w)
  clear hn hC hBe
  go_enter Tryz.func7, Tryz.ntmps7
  go_wp2_with (first | (go_at_call 10; refine HC.out.mono ?_; rintro e w1 ⟨rfl, hm1, hb1⟩) | fail)
  go_loopg [11] n (fun m s11 wr => ∃ k : Nat, s11 = .int .i64 (k : Int) ∧ m = n - k ∧ k ≤ n ∧ Hid (∀ j, j < k → atC l j = 0) ∧ Below B w wr ∧ B ≤ wr.heap.size ∧ ∃ D, CMap wr B 9 D ∧ Lft l D)
  case atStart => exact ⟨0, rfl, rfl, Nat.zero_le _, Lib.hid (fun j hj => by omega), hb1, by have := hb1.size; rw [HBE.out] at this; exact this, D9, hm1, lft9 l⟩
  case round =>
    obtain ⟨k, rfl, rfl, hk, HNo, hB, hBs, D, hm, hL⟩ := hrel
    clear hm1 hb1 HC
    by_cases hlt : k < n
    · have hltz : (k : Int) < (n : Int) := by omega
      have hrr := (hr.below hB).mono hBs
      obtain ⟨b, o, rfl, hb, hcc⟩ := (hr.below hB).at_ (by have := HN.out; simp; omega)
      have c0 := row_cell hcc k (by rw [HN.out]; exact hlt)
      have hc := HCC.out _ (mems (l := l) (i := k) (by rw [HN.out]; exact hlt))
      have HAT : Hid (atC l k = if kd l[k]! < 8 ∧ ok l k (kd l[k]!) = false then cls (kd l[k]!) else 0) := Lib.hid rfl
      have HH := Lib.hid (fun W (hk8 : kd l[k]! < 8) (h : Row W W.heap.size (some ⟨b, o, none⟩) (cl .i32 l)) => holds_any l k (kd l[k]!) _ n c W HN.out hlt hn1 hk8 h)
      obtain ⟨r, hr0⟩ : ∃ r, l[k]! = r := ⟨_, rfl⟩
      rw [hr0] at c0 hc HAT HH
      have HK := Lib.hid (key_any r)
      have hLq := hL.2 (kyv r)
      rw [← kd_key] at hLq
      have hen := enterC (kd r)
      have HL9 := Lib.hid hL
      cases hh : has D (ki (kyv r)) with
      | false =>
        have HZ : Hid (atC l k = 0) := Lib.hid (by
          rw [HAT.out]
          rcases hLq.2 hh with h8 | ⟨h5, ho⟩
          · rw [if_neg (by omega)]
          · rw [if_neg (by rw [okw_any l k _ h5, ho]; simp)])
        have HL := Lib.hid (fun W (h : CMap W B 9 D) => h.look (kyv_in hc.1 hc.2).1 (kyv_in hc.1 hc.2).2 (atKey_none hL.1 hh) hh)
        unfold cz at HL
        clear hcc hr0 hLq hh hL HH HAT hen hc
        go_wp2_with (first | (go_at_call 11; refine (HK.out _).mono ?_; rintro e w2 ⟨rfl, hb2⟩; have hl2 := HL.out _ (hm.below hb2)) | fail)
        go_roundg (n - (k + 1))
        case measure => omega
        case rel =>
          have hB2 := hB.trans (hb2.mono hBs)
          have hs2 : B ≤ w2.heap.size := Nat.le_trans hBs hb2.size
          refine ⟨k + 1, by go_num, rfl, by omega, Lib.hid (fun j hj => ?_), hB2.alloc hs2 _, ?_, D, (hm.below hb2).alloc _, HL9.out⟩
          · by_cases e : j = k
            · rw [e]; exact HZ.out
            · exact HNo.out j (by omega)
          · have := ((Below.refl _ w2).alloc (Nat.le_refl _) (.cells #[.int .u8 0, .bool false, .nilFunc] 29)).size
            exact Nat.le_trans hs2 this
      | true =>
        obtain ⟨h8, hat⟩ := hLq.1 hh
        have HL := Lib.hid (fun W (h : CMap W B 9 D) => h.look (kyv_in hc.1 hc.2).1 (kyv_in hc.1 hc.2).2 hat hh)
        have HH2 := Lib.hid (fun W (h : Row W W.heap.size (some ⟨b, o, none⟩) (cl .i32 l)) => HH.out W h8 h)
        unfold cv cvc at HL
        rw [fnC_fid] at HL
        have HCL : Hid (cls (kd r) ≠ 0) := Lib.hid (cls_ne _)
        have HQ : Hid (∀ q, ok l k (kd r) = q → atC l k = if q = false then cls (kd r) else 0) := Lib.hid (fun q e => by rw [HAT.out, e]; simp [h8])
        have HW : Hid (whl (kd r) = true → ok l k (kd r) = true → Lft l (D.del (ki (kyv r)))) := Lib.hid (fun e e2 => by
          have h5 : 5 ≤ kd r := of_decide_eq_true e
          exact lft_del HL9.out h5 ((okw_any l k _ h5).symm.trans e2))
        have HKY := Lib.hid (key32 (kyv_in hc.1 hc.2).1 (kyv_in hc.1 hc.2).2)
        clear hcc hr0 hLq hh hL HH HAT hc h8 hat
        generalize fid (kd r) = φ at HL HH2 hen
        obtain ⟨q, hq⟩ : ∃ q, ok l k (kd r) = q := ⟨_, rfl⟩
        rw [hq] at HH2 HW
        have HQ2 := Lib.hid (HQ.out q hq)
        clear HQ hq
        generalize cls (kd r) = x at HL HQ2 HCL
        obtain ⟨y, hy⟩ : ∃ y, whl (kd r) = y := ⟨_, rfl⟩
        rw [hy] at HL HW
        clear hy
        go_upto_region 7 with (first | (go_at_call 11; refine (HK.out _).mono ?_; rintro e w2 ⟨rfl, hb2⟩; have hl2 := HL.out _ (hm.below hb2)) | fail)
        have hX := alloc_new w2 (.cells #[.int .u8 x, .bool y, .func (.func φ) #[] #[]] 29)
        have hm2 := (hm.below hb2).alloc (.cells #[.int .u8 x, .bool y, .func (.func φ) #[] #[]] 29)
        have hB2 := (hB.trans (hb2.mono hBs)).alloc (Nat.le_trans hBs hb2.size) (.cells #[.int .u8 x, .bool y, .func (.func φ) #[] #[]] 29)
        have hs2 := Nat.le_trans (Nat.le_trans hBs hb2.size) (upA w2 (.cells #[.int .u8 x, .bool y, .func (.func φ) #[] #[]] 29)).size
        clear hm hB hBs hl2 hb2 c0
        generalize w2.alloc (.cells #[.int .u8 x, .bool y, .func (.func φ) #[] #[]] 29) = W1 at hX hm2 hB2 hs2 ⊢
        generalize w2.heap.size = X at hX ⊢
        obtain ⟨x0, x1, x2, _, _, _⟩ := cells3 hX
        have HX := Lib.hid (Array.getElem?_eq_some_iff.1 hX).1
        have HF := Lib.hid (HH2.out W1 ((hr.below hB2).mono hs2))
        clear hX hr HH2 HL
        cases q with
        | false =>
          have HR : Hid (chkC l = x) := Lib.hid (by
            have e : atC l k = x := HQ2.out
            rw [chk_at (by rw [HN.out]; exact hlt) (by rw [e]; exact HCL.out) HNo.out, e])
          go_wp2_with (first | (refine HF.out.mono ?_; rintro e w5 ⟨rfl, hb5⟩; have y0 := (hb5.cell (p := ⟨X, 0, none⟩) HX.out).trans x0) | fail)
          go_ret
          exact ⟨by rw [HR.out]; rfl, by rw [HBE.out]; exact hB2.trans (hb5.mono hs2)⟩
        | true =>
          have HZ : Hid (∀ j, j < k + 1 → atC l j = 0) := Lib.hid (fun j hj => by
            by_cases e : j = k
            · rw [e]; exact HQ2.out
            · exact HNo.out j (by omega))
          clear HQ2 HNo
          cases y with
          | false =>
            go_wp2_with (first | (refine HF.out.mono ?_; rintro e w5 ⟨rfl, hb5⟩; have y1 := (hb5.cell (p := ⟨X, 1, none⟩) HX.out).trans x1) | fail)
            go_roundg (n - (k + 1))
            case measure => omega
            case rel => exact ⟨k + 1, by go_num, rfl, by omega, HZ, hB2.trans (hb5.mono hs2), Nat.le_trans hs2 hb5.size, D, hm2.below hb5, HL9.out⟩
          | true =>
            go_wp2_with (first
              | (go_at_call 11; refine (HK.out _).mono ?_; rintro e w6 ⟨rfl, hb6⟩; have hB6 := hB5.trans (hb6.mono hs5); have hs6 := Nat.le_trans hs5 hb6.size; have hm6 := hm5.below hb6)
              | (refine HF.out.mono ?_; rintro e w5 ⟨rfl, hb5⟩; have y1 := (hb5.cell (p := ⟨X, 1, none⟩) HX.out).trans x1; have hB5 := hB2.trans (hb5.mono hs2); have hs5 := Nat.le_trans hs2 hb5.size; have hm5 := hm2.below hb5)
              | (refine wpList_delete_own _ rfl _ _ 31 21 rfl 29 law32 Tryz.underlying31 RV B 9 D rfl hm6 _ _ rfl HKY.out ?_; intro w7 hm7 ht7)
              | fail)
            go_roundg (n - (k + 1))
            case measure => omega
            case rel =>
              have hg7 := World.mapTurned.grown ht7
              exact ⟨k + 1, by go_num, rfl, by omega, HZ, hB6.grown hg7 hs6 (fun j hj => by cases hj; exact Nat.le_refl _), Nat.le_trans hs6 hg7.size, _, hm7, HW.out (by first | trivial | rfl) (by first | trivial | rfl)⟩
    · obtain rfl : k = n := by omega
      have hltz : ¬ ((k : Nat) : Int) < (k : Int) := by omega
      have HZ : Hid (chkC l = 0) := Lib.hid (chk_none (by rw [HN.out]; exact HNo.out))
      go_wp2_with fail
      go_ret
      exact ⟨by rw [HZ.out]; rfl, by rw [HBE.out]; exact hB⟩
end Go.Proofs.YtmeihnhghdmjiaaGreatDoor.Ctx
