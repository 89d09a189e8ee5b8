/-
  fasciaref05: class, NFD.
-/
import Derived.Test.YtenfdnnagijfnaaGreatDoorNormRE
import Derived.Test.YtenfdnnagijfnaaGreatDoorNormRD
import Derived.Test.YtenfdnnagijfnaaGreatDoorUcdRefC
import Derived.Deep.RegionHeld3
namespace Go.Proofs.YtenfdnnagijfnaaGreatDoor
open Go.RowKit Norm

theorem ccc_255 (r : Int) : ccc r < 256 := by
  unfold ccc
  rcases Ucd.of_cases r with ⟨i, hi, _, _, h⟩ | ⟨_, h⟩
  · rw [h]
    exact (Ucd.pr_bd hi 3).2
  · rw [h]
    decide
set_option maxRecDepth 100000 in
set_option maxHeartbeats 1000000 in
theorem refClass_any (r : Int) (w : World) (h0 : -2147483648 ≤ r ∧ r ≤ 2147483647) : Calls Tryz.prog 39 #[.int .i32 r] w (Tells (.int .i64 (ccc r)) w) := by
  have HO := Lib.hid (fun w => RefOf_any r w h0.1 h0.2)
  have HRC := run_ccc (Ucd.of r)
  have g0 := ccc_pos r
  have g1 := ccc_255 r
  unfold ccc at g0 g1 ⊢
  generalize Ucd.of r = p at HO HRC g0 g1 ⊢
  clear h0
  go_enter Tryz.func39, Tryz.ntmps39
  go_wp2_with (first | (go_at_call 53; refine (HO.out _).mono ?_; rintro e w1 ⟨rfl, hb⟩) | fail)
  go_ret
  exact ⟨by first | rfl | (rw [IntWalk.i64_in _ (by omega)]) | (congr 2; go_num), hb⟩

/-- where the row has something, its block is known -/
theorem own_at {w : World} {base : Nat} {e : TypeId} {n c : Nat} {A : Option Addr} {xs : List Value} (h : w.ownsRow base e 1 (.slice A n c) n xs) (hn : 0 < n) : ∃ g, A = some ⟨g, 0, none⟩ := by
  obtain ⟨g, c', hv, _⟩ := own_known h hn
  injection hv with hA
  exact ⟨g, hA⟩
theorem flat_len (l : List Int) : (l.flatMap full).length ≤ l.length * 5 := by
  have := dec_len l
  rwa [← full_dec, List.length_map] at this
theorem flat_take {l : List Int} {k : Nat} (hk : k < l.length) : (l.take (k + 1)).flatMap full = (l.take k).flatMap full ++ full l[k] := by
  rw [List.take_add_one, List.getElem?_eq_getElem hk, List.flatMap_append]
  simp
theorem get_some {l : List Int} {i : Nat} (h : i < l.length) : l[i]? = some l[i]! := by rw [List.getElem?_eq_getElem h, getElem!_pos l i h]
theorem get_mem {l : List Int} {i : Nat} (h : i < l.length) : l[i]! ∈ l := by rw [getElem!_pos l i h]; exact List.getElem_mem h
theorem own_nil32 (w : World) (base : Nat) : w.ownsRow base 21 1 (.slice none 0 0) 0 [] := ⟨rfl, .inl ⟨rfl, rfl⟩⟩
theorem own_swap {w : World} {base g c n : Nat} {O : List Int} (h : w.ownsRow base 21 1 (.slice (some ⟨g, 0, none⟩) n c) n (cl .i32 O)) (j : Nat) :
    ((w.setCell ⟨g, j, none⟩ (.int .i32 O[j + 1]!)).setCell ⟨g, j + 1, none⟩ (.int .i32 O[j]!)).ownsRow base 21 1 (.slice (some ⟨g, 0, none⟩) n c) n (cl .i32 (swp O j)) := by
  have h1 := (World.ownsRow.stored h j (.int .i32 O[j + 1]!)).1
  have h2 := (World.ownsRow.stored h1 (j + 1) (.int .i32 O[j]!)).1
  have e : ((cl .i32 O).set j (.int .i32 O[j + 1]!)).set (j + 1) (.int .i32 O[j]!) = cl .i32 (swp O j) := by simp [cl, swp, List.map_set]
  rwa [e] at h2
theorem own_swap_below {w0 w : World} {g : Nat} (hb : Below w0.heap.size w0 w) (hg : w0.heap.size ≤ g) (j k : Nat) (a b : Value) :
    Below w0.heap.size w0 ((w.setCell ⟨g, j, none⟩ a).setCell ⟨g, k, none⟩ b) := (hb.setCell (p := ⟨g, j, none⟩) hg a).setCell (p := ⟨g, k, none⟩) hg b

set_option maxRecDepth 100000 in
set_option maxHeartbeats 4000000 in
theorem refNFD_any (l : List Int) (A : Option Addr) (cap : Nat) (w : World) (hl : l.length ≤ 1000) (hC : C32 l) (hr : Row w w.heap.size A (cl .i32 l)) :
    Calls Tryz.prog 20 #[.slice A l.length cap] w (MadeV w (nfd l)) := by
  obtain ⟨i0, hi, hz0, hz1, hz2⟩ := info_split info_int32
  have HZ := Lib.hid hz2
  have HBE : Hid (∀ o, Bub (dec l) (dec l).length o → Up o (dec l).length → o = nfd l) := Lib.hid fun o h1 h2 => bub_end h1 h2
  have HBA := Lib.hid (bub_at hC)
  go_enter Tryz.func20, Tryz.ntmps20
  go_wp2_with fail
  go_loopg [3, 4] l.length (fun m s3 s4 wr => ∃ (k c : Nat) (A2 : Option Addr), s4 = .int .i64 (k : Int) ∧ m = l.length - k ∧ k ≤ l.length ∧ s3 = .slice A2 ((l.take k).flatMap full).length c ∧ wr.ownsRow w.heap.size 21 1 (.slice A2 ((l.take k).flatMap full).length c) ((l.take k).flatMap full).length (cl .i32 ((l.take k).flatMap full)) ∧ Below w.heap.size w wr)
  case atStart => exact ⟨0, 0, none, rfl, rfl, Nat.zero_le _, rfl, own_nil32 _ _, Below.refl _ _⟩
  case round =>
    obtain ⟨k, c, A2, rfl, rfl, hk, rfl, hO, hB⟩ := hrel
    by_cases hlt : k < l.length
    · have hltz : (k : Int) < (l.length : Int) := by omega
      have HFT := Lib.hid (flat_take hlt)
      have hx32 := hC _ (List.getElem_mem hlt)
      have hnl : ((l.take k).flatMap full).length ≤ 5000 := by have := flat_len (l.take k); rw [List.length_take] at this; omega
      obtain ⟨b0, o0, rfl, hb0, hcc⟩ := (hr.below hB).at_ (by simp; omega)
      have c0 := hcc k (by simpa using hlt)
      rw [List.getElem?_map, List.getElem?_eq_getElem hlt, Option.map_some] at c0
      obtain ⟨r, hx⟩ : ∃ r, l[k] = r := ⟨_, rfl⟩
      rw [hx] at c0 hx32 HFT
      have HS := Lib.hid (fun w => refSplit_any r w hx32)
      have hfl := full_len r
      obtain ⟨P, hP⟩ : ∃ P, (l.take k).flatMap full = P := ⟨_, rfl⟩
      rw [hP] at hO hnl HFT ⊢
      obtain ⟨F, hF⟩ : ∃ F, full r = F := ⟨_, rfl⟩
      rw [hF] at HS hfl HFT
      clear hcc hx hP hF hx32 HBE HBA hC
      go_wp2_with (first
        | (go_at_call 18; refine (HS.out _).mono ?_; rintro e w2 ⟨A3, c3, rfl, ho3, hb3⟩; have hO3 := own_below hO hb3; have hB3 := hB.trans (hb3.mono hB.size))
        | (at_builtin; refine wpList_append_row _ rfl _ _ 22 rfl w.heap.size 21 i0 (.int .i32 0) 1 4 Tryz.underlying22 hi hz0 hz1 hz2 rfl (by decide) _ P.length (cl .i32 P) rfl hO3 _ A3 F.length c3 (cl .i32 F) rfl (by simp) (Row.of_own ho3) (one_cl _ _) (by unfold maxLen; omega) (by omega) hB3.size ?_; intro v4 w4 hO4 hg4; obtain ⟨A4, c4, hv4⟩ := own_shape hO4; subst hv4)
        | fail)
      have hB4 : Below w.heap.size w w4 := hB3.grown hg4 hB3.size (fun j e => (hO3.lt j e).1)
      go_roundg (l.length - (k + 1))
      case measure => omega
      case rel =>
        refine ⟨k + 1, c4, A4, by go_num, rfl, by omega, ?_, ?_, hB4⟩
        · rw [HFT.out, List.length_append]
        · rw [HFT.out, List.length_append, show cl .i32 (P ++ F) = cl .i32 P ++ cl .i32 F from by simp [cl]]
          exact hO4
    · obtain rfl : k = l.length := by omega
      have hltz : ¬ ((l.length : Nat) : Int) < (l.length : Int) := by omega
      rw [List.take_length] at hO ⊢
      have hN : (l.flatMap full).length = (dec l).length := HBA.out.2.1
      have hn5 : (dec l).length ≤ 5000 := by have := dec_len l; omega
      obtain ⟨O0, hO0⟩ : ∃ O, l.flatMap full = O := ⟨_, rfl⟩
      rw [hO0] at hO HBA hN ⊢
      rw [hN] at hO ⊢
      obtain ⟨n, hn⟩ : ∃ n, (dec l).length = n := ⟨_, rfl⟩
      rw [hn] at hO HBA HBE hn5 ⊢
      obtain ⟨D, hD⟩ : ∃ D, dec l = D := ⟨_, rfl⟩
      rw [hD] at HBA HBE
      clear hN hn hD hO0 hltz hlt hC hr hl hk HZ
      go_wp2_with fail
      go_loopg [5] (2 * inv O0 + 1) (fun m s5 wr => ∃ (O : List Int) (b : Bool), s5 = .bool b ∧ m = 2 * inv O + (if b then 1 else 0) ∧ Hid (Bub D n O) ∧ Hid (b = false → Up O n) ∧ wr.ownsRow w.heap.size 21 1 (.slice A2 n c) n (cl .i32 O) ∧ Below w.heap.size w wr)
      case atStart => exact ⟨O0, true, rfl, rfl, HBA, Lib.hid (fun h => by cases h), hO, hB⟩
      case round =>
        clear hO hB HBA
        obtain ⟨O, b, rfl, rfl, HB, HU, hO, hB⟩ := hrel
        cases b with
        | true =>
          clear HU
          go_wp2_with fail
          have H0 : Hid ((false = true → inv O < inv O) ∧ (false = false → inv O = inv O ∧ Up O 1)) := Lib.hid ⟨fun h => (by cases h), fun _ => ⟨rfl, fun j hj => (by omega)⟩⟩
          go_loopg [5, 6] (n - 1) (fun m s5 s6 wr => ∃ (O' : List Int) (b' : Bool) (p : Nat), s5 = .bool b' ∧ s6 = .int .i64 (p : Int) ∧ m = n - p ∧ 1 ≤ p ∧ Hid (Bub D n O') ∧ Hid ((b' = true → inv O' < inv O) ∧ (b' = false → inv O' = inv O ∧ Up O' p)) ∧ wr.ownsRow w.heap.size 21 1 (.slice A2 n c) n (cl .i32 O') ∧ Below w.heap.size w wr)
          case atStart => exact ⟨O, false, 1, rfl, rfl, rfl, Nat.le_refl _, HB, H0, hO, hB⟩
          case round =>
            clear hO hB HB H0
            obtain ⟨O', b', p, rfl, rfl, rfl, hp1, HB, HI, hO, hB⟩ := hrel
            by_cases hlt : p < n
            · have hltz : (p : Int) < (n : Int) := by omega
              obtain ⟨i, hpi⟩ : ∃ i, p = i + 1 := ⟨p - 1, by omega⟩
              have HP := Lib.hid hpi
              have hlO : O'.length = n := HB.out.2.1
              obtain ⟨g, rfl⟩ := own_at hO (by omega)
              have hgb := (hO.lt g rfl).1
              have hgl := (hO.lt g rfl).2
              have c0 := own_cell hO (q := i) (by omega) (get_some (l := O') (i := i) (by omega))
              have c1 := own_cell hO (q := p) (by omega) (get_some (l := O') (i := p) (by omega))
              have ka := HB.out.2.2 _ (get_mem (l := O') (i := i) (by omega))
              have kb := HB.out.2.2 _ (get_mem (l := O') (i := p) (by omega))
              obtain ⟨a, ha⟩ : ∃ a, O'[i]! = a := ⟨_, rfl⟩
              obtain ⟨b, hb⟩ : ∃ b, O'[p]! = b := ⟨_, rfl⟩
              rw [ha] at c0 ka
              rw [hb] at c1 kb
              have HCa := Lib.hid (fun w => refClass_any a w ka)
              have HCb := Lib.hid (fun w => refClass_any b w kb)
              have HAB : Hid (O'[i]! = a ∧ O'[i + 1]! = b) := Lib.hid ⟨ha, by rw [← hpi]; exact hb⟩
              have hp := ccc_pos b
              obtain ⟨x, hx⟩ : ∃ x, ccc a = x := ⟨_, rfl⟩
              obtain ⟨y, hy⟩ : ∃ y, ccc b = y := ⟨_, rfl⟩
              rw [hx] at HCa
              rw [hy] at HCb hp
              have HXY : Hid (ccc a = x ∧ ccc b = y) := Lib.hid ⟨hx, hy⟩
              have hsub : (p : Int) - 1 = (i : Int) := by omega
              have hwi : IntKind.i64.wrap (i : Int) = (i : Int) := IntWalk.i64_in _ (by omega)
              have b1 : (i : Int) < (n : Int) := by omega
              have b3 : (0 : Int) ≤ (i : Int) := by omega
              have b4 : (0 : Int) ≤ (p : Int) := by omega
              clear ha hb hx hy ka kb hlO hpi hp1
              go_upto_region 12 with fail
              go_cut [7, 8] from 29 to 39 (fun s7 s8 wx => s7 = .int .i64 x ∧ s8 = .int .i64 y ∧ Below wr.heap.size wr wx)
              case first =>
                go_region_held3 (fun w' => w'.cell? ⟨g, i, none⟩ = some (.int .i32 a) ∧ w'.cell? ⟨g, p, none⟩ = some (.int .i32 b)) (first | exact ⟨c0, c1⟩ | exact ⟨(hB4.cell (p := ⟨g, i, none⟩) hgl).trans c0, (hB4.cell (p := ⟨g, p, none⟩) hgl).trans c1⟩) (first
                  | (go_at_call 39; (first | refine (HCa.out _).mono ?_ | refine (HCb.out _).mono ?_); rintro e w4 ⟨rfl, hB4'⟩; have hB4 : Below wr.heap.size wr w4 := (by first | exact hB4' | exact below_undrew hB4' | exact upB hB4 hB4' | exact upB hB4 (below_undrew hB4')))
                  | fail)
                all_goals (
                  go_wp2_with fail
                  go_meet
                  exact ⟨rfl, rfl, hB4⟩)
              case rest =>
                obtain ⟨rfl, rfl, hBx⟩ := hcut
                have hO3 := own_below hO hBx
                have hB3 := hB.trans (hBx.mono hB.size)
                clear hO hB hBx c0 c1 HCa HCb hgl
                generalize wc = w3 at hO3 hB3 ⊢
                by_cases h0 : 0 < y
                · by_cases h1 : y < x
                  · have HSW := Lib.hid (bub_swap HB.out (i := i) (by have := HP.out; omega) (by rw [HAB.out.2, HXY.out.2]; omega) (by rw [HAB.out.1, HAB.out.2, HXY.out.1, HXY.out.2]; exact h1))
                    have hlO : O'.length = n := HB.out.2.1
                    go_upto_region 14 with fail
                    have c0 := own_cell hO3 (q := i) (by omega) (get_some (l := O') (i := i) (by omega))
                    have c1 := own_cell hO3 (q := p) (by omega) (get_some (l := O') (i := p) (by omega))
                    have f0 := own_frozen hO3 i
                    have f1 := own_frozen hO3 p
                    rw [HAB.out.1] at c0
                    rw [show O'[p]! = b from by rw [HP.out]; exact HAB.out.2] at c1
                    clear hlO
                    go_region
                    go_wp2_with fail
                    go_roundg (n - (p + 1))
                    case measure => omega
                    case rel =>
                      have hsw := own_swap hO3 i
                      have hbl := own_swap_below hB3 hgb i p (.int .i32 b) (.int .i32 a)
                      rw [HAB.out.1, HAB.out.2, ← HP.out] at hsw
                      exact ⟨swp O' i, true, p + 1, rfl, by go_num, rfl, by omega, Lib.hid HSW.out.1, Lib.hid ⟨fun _ => (by have := HSW.out.2; have h2 := HI.out; cases b' with | true => have := h2.1 rfl; omega | false => have := (h2.2 rfl).1; omega), fun h => (by cases h)⟩, hsw, hbl.drew⟩
                  · have HUP := Lib.hid (fun h => up_round (l := O') (i := i) (by rw [← HP.out]; exact (HI.out.2 h).2) (by rw [HAB.out.1, HAB.out.2, HXY.out.1, HXY.out.2]; omega))
                    go_wp2_with fail
                    go_roundg (n - (p + 1))
                    case measure => omega
                    case rel => exact ⟨O', b', p + 1, rfl, by go_num, rfl, by omega, HB, Lib.hid ⟨HI.out.1, fun h => ⟨(HI.out.2 h).1, by have := HUP.out h; rw [HP.out]; exact this⟩⟩, hO3, hB3⟩
                · have HUP := Lib.hid (fun h => up_round (l := O') (i := i) (by rw [← HP.out]; exact (HI.out.2 h).2) (by rw [HAB.out.1, HAB.out.2, HXY.out.1, HXY.out.2]; omega))
                  go_wp2_with fail
                  go_roundg (n - (p + 1))
                  case measure => omega
                  case rel => exact ⟨O', b', p + 1, rfl, by go_num, rfl, by omega, HB, Lib.hid ⟨HI.out.1, fun h => ⟨(HI.out.2 h).1, by have := HUP.out h; rw [HP.out]; exact this⟩⟩, hO3, hB3⟩
            · have hltz : ¬ (p : Int) < (n : Int) := by omega
              go_wp2_with fail
              go_roundg (2 * inv O' + (if b' then 1 else 0))
              case measure =>
                cases b' with
                | true => have := HI.out.1 rfl; simp; omega
                | false => have := (HI.out.2 rfl).1; simp; omega
              case rel => exact ⟨O', b', rfl, rfl, HB, Lib.hid (fun h j hj => (HI.out.2 h).2 j (by omega)), hO, hB⟩
        | false =>
          have hE := Lib.hid (HBE.out O HB.out (HU.out rfl))
          have hlR : Hid (O.length = n) := Lib.hid HB.out.2.1
          clear HB HU HBE
          go_wp2_with fail
          go_ret
          exact ⟨A2, c, by rw [← hE.out, hlR.out]; rfl, by rw [← hE.out, hlR.out]; exact hO, hB⟩
end Go.Proofs.YtenfdnnagijfnaaGreatDoor
