/-
  norm: Same, slices.Equal, NFD, NFC, Is.
-/
import Derived.Test.YtenfdnnagijfnaaGreatDoorNormS
import Derived.Deep.QuietTactic
import Derived.BigQuiet
namespace Go.Proofs.YtenfdnnagijfnaaGreatDoor
open Go.RowKit Norm

/-- a bool, and nothing that lay before has turned -/
def IsB (b : Bool) (w : World) (e : Ending) (w' : World) : Prop := e = .returned (.bool b) ∧ Below w.heap.size w w'

theorem IsB.drewN {b : Bool} {w : World} {e : Ending} (he : e = .returned (.bool b)) (q : Nat) : IsB b w e (w.drewN q) := ⟨he, ⟨rfl, rfl, rfl, Nat.le_refl _, fun _ _ => rfl⟩⟩

theorem IsB.drewN2 {b : Bool} {w : World} {e : Ending} (he : e = .returned (.bool b)) (q q' : Nat) : IsB b w e ((w.drewN q).drewN q') := ⟨he, ⟨rfl, rfl, rfl, Nat.le_refl _, fun _ _ => rfl⟩⟩

theorem all_eq {α : Type} {a b : List α} {n : Nat} (ha : a.length = n) (hb : b.length = n) (h : ∀ j, j < n → a[j]? = b[j]?) : a = b := by
  refine List.ext_getElem? fun j => ?_
  by_cases hj : j < n
  · exact h j hj
  · rw [List.getElem?_eq_none (by omega), List.getElem?_eq_none (by omega)]

set_option maxHeartbeats 1000000 in
theorem Same_any (a b : List Int) (A B : Option Addr) (n m c d : Nat) (w : World) (hn : a.length = n) (hm : b.length = m) (hn1 : n ≤ 1000000) (hm1 : m ≤ 1000000) (hra : Row w w.heap.size A (cl .i32 a)) (hrb : Row w w.heap.size B (cl .i32 b)) :
    Calls Tryz.prog 16 #[.slice A n c, .slice B m d] w (IsB (decide (a = b)) w) := by
  by_cases hnm : n = m
  · have HN := Lib.hid hn
    subst hnm
    have HM := Lib.hid hm
    clear hn hm
    go_enter Tryz.func16, Tryz.ntmps16
    go_wp2
    go_loopw [13] (fun i wr => ∃ k : Nat, k ≤ n ∧ i = .int .i64 k ∧ (∀ j, j < k → a[j]? = b[j]?) ∧ ∃ q, wr = w.drewN q) (fun i _ => n - (intOf i).toNat)
    case atStart => exact ⟨0, by omega, rfl, by omega, 0, rfl⟩
    case round =>
      obtain ⟨k, hk, rfl, hall, q, rfl⟩ := hrel
      have HA := Lib.hid hall
      clear hall
      by_cases hlt : k < n
      · have hka : k < a.length := by rw [HN.out]; exact hlt
        have hkb : k < b.length := by rw [HM.out]; exact hlt
        obtain ⟨b1, o1, rfl, hb1, hc1⟩ := hra.at_ (by simp; omega)
        obtain ⟨b2, o2, rfl, hb2, hc2⟩ := hrb.at_ (by simp; omega)
        have g1 := hc1 k (by simp; omega)
        have g2 := hc2 k (by simp; omega)
        rw [cl_get _ _ _ hka] at g1
        rw [cl_get _ _ _ hkb] at g2
        obtain ⟨x, hx⟩ : ∃ x, a[k] = x := ⟨_, rfl⟩
        obtain ⟨y, hy⟩ : ∃ y, b[k] = y := ⟨_, rfl⟩
        rw [hx] at g1
        rw [hy] at g2
        have HX := Lib.hid hx
        have HY := Lib.hid hy
        clear hx hy hc1 hc2 hra hrb
        by_cases hxy : x = y
        · subst hxy
          go_wp2
          go_quiet (fail)
          go_wp2
          go_roundw
          case rel =>
            refine ⟨k + 1, by omega, by go_num, fun j hj => ?_, _, rfl⟩
            by_cases hjk : j < k
            · exact HA.out j hjk
            · obtain rfl : j = k := by omega
              rw [List.getElem?_eq_getElem hka, List.getElem?_eq_getElem hkb, HX.out, HY.out]
          case measure => simp [intOf]; omega
        · have hne : (x != y) = true := by simpa using hxy
          go_wp2
          go_quiet (fail)
          go_wp2
          go_ret
          refine IsB.drewN2 (ret_bool ?_) _ _
          rw [decide_eq_false (fun e => hxy (by rw [← HX.out, ← HY.out]; simp [e]))]
      · obtain rfl : k = n := by omega
        go_wp2
        go_ret
        exact IsB.drewN (ret_bool (decide_eq_true (all_eq HN.out HM.out HA.out)).symm) _
  · have hne : ((n : Int) != (m : Int)) = true := by simp; omega
    go_enter Tryz.func16, Tryz.ntmps16
    go_wp2
    go_ret
    refine ⟨ret_bool ?_, Below.refl _ _⟩
    have : a ≠ b := fun e => hnm (by rw [← hn, ← hm, e])
    simp [this]


set_option maxHeartbeats 1000000 in
theorem Equal_any (a b : List Int) (A B : Option Addr) (n m c d : Nat) (w : World) (hn : a.length = n) (hm : b.length = m) (hn1 : n ≤ 1000000) (hm1 : m ≤ 1000000) (hra : Row w w.heap.size A (cl .i32 a)) (hrb : Row w w.heap.size B (cl .i32 b)) :
    Calls Tryz.prog 41 #[.slice A n c, .slice B m d] w (IsB (decide (a = b)) w) := by
  by_cases hnm : n = m
  · have HN := Lib.hid hn
    subst hnm
    have HM := Lib.hid hm
    clear hn hm
    go_enter Tryz.func41, Tryz.ntmps41
    go_wp2
    go_loopw [13] (fun i wr => ∃ k : Nat, k ≤ n ∧ i = .int .i64 k ∧ (∀ j, j < k → a[j]? = b[j]?) ∧ ∃ q, wr = w.drewN q) (fun i _ => n - (intOf i).toNat)
    case atStart => exact ⟨0, by omega, rfl, by omega, 0, rfl⟩
    case round =>
      obtain ⟨k, hk, rfl, hall, q, rfl⟩ := hrel
      have HA := Lib.hid hall
      clear hall
      by_cases hlt : k < n
      · have hka : k < a.length := by rw [HN.out]; exact hlt
        have hkb : k < b.length := by rw [HM.out]; exact hlt
        obtain ⟨b1, o1, rfl, hb1, hc1⟩ := hra.at_ (by simp; omega)
        obtain ⟨b2, o2, rfl, hb2, hc2⟩ := hrb.at_ (by simp; omega)
        have g1 := hc1 k (by simp; omega)
        have g2 := hc2 k (by simp; omega)
        rw [cl_get _ _ _ hka] at g1
        rw [cl_get _ _ _ hkb] at g2
        obtain ⟨x, hx⟩ : ∃ x, a[k] = x := ⟨_, rfl⟩
        obtain ⟨y, hy⟩ : ∃ y, b[k] = y := ⟨_, rfl⟩
        rw [hx] at g1
        rw [hy] at g2
        have HX := Lib.hid hx
        have HY := Lib.hid hy
        clear hx hy hc1 hc2 hra hrb
        by_cases hxy : x = y
        · subst hxy
          go_wp2
          go_quiet (fail)
          go_wp2
          go_roundw
          case rel =>
            refine ⟨k + 1, by omega, by go_num, fun j hj => ?_, _, rfl⟩
            by_cases hjk : j < k
            · exact HA.out j hjk
            · obtain rfl : j = k := by omega
              rw [List.getElem?_eq_getElem hka, List.getElem?_eq_getElem hkb, HX.out, HY.out]
          case measure => simp [intOf]; omega
        · have hne : (x != y) = true := by simpa using hxy
          go_wp2
          go_quiet (fail)
          go_wp2
          go_ret
          refine IsB.drewN2 (ret_bool ?_) _ _
          rw [decide_eq_false (fun e => hxy (by rw [← HX.out, ← HY.out]; simp [e]))]
      · obtain rfl : k = n := by omega
        go_wp2
        go_ret
        exact IsB.drewN (ret_bool (decide_eq_true (all_eq HN.out HM.out HA.out)).symm) _
  · have hne : ((n : Int) != (m : Int)) = true := by simp; omega
    go_enter Tryz.func41, Tryz.ntmps41
    go_wp2
    go_ret
    refine ⟨ret_bool ?_, Below.refl _ _⟩
    have : a ≠ b := fun e => hnm (by rw [← hn, ← hm, e])
    simp [this]



/-- append onto a row of the call's own, and where it lies -/
theorem wpList_append_own2 {P : Program} (w : World) {ops : Array Oper} {rest : List Oper} {o : Oper} {a : Act} {Q : Exit → Act → World → Prop} (hgd : o.guard = none) (s x : Operand) (t : TypeId)
    (ho : o.op = .call { callee := .builtin .append, args := #[s, x], argTypes := #[t, t] })
    (base : Nat) (e : TypeId) (i : TypeInfo) (z : Value) (size bytes : Nat) (ht : P.underlying t = some (.slice e)) (hi : P.info? e = some i) (hz : i.zero = some z)
    (hsize : i.size = size) (hby : i.bytes = bytes) (hzs : z.cells.size = size) (hsz : 0 < size) (v : Value) (n : Nat) (xs : List Value) (hs : a.eval s = v) (hown : w.ownsRow base e size v n xs)
    (ad : Addr) (m c1 : Nat) (news : List Value) (hx : a.eval x = .slice (some ad) m c1) (hl : news.length = m * size) (hnews : ∀ j u, news[j]? = some u → w.cell? (ad.add j) = some u) (h1 : ∀ u ∈ news, u.oneCell' = true)
    (h63 : n + m ≤ maxLen) (hbytes : (n + m) * bytes ≤ 140737488355328) (hbase : base ≤ w.heap.size)
    (h : ∀ v' w', w'.ownsRow base e size v' (n + m) (xs ++ news) → w.grownBy w' v.ownBlock → (v'.ownBlock = v.ownBlock ∨ v'.ownBlock = some w.heap.size) → wpList P ops Q rest (a.put o.dst v') w') : wpList P ops Q (o :: rest) a w := by
  refine wpList_plain hgd fun K hK => ?_
  obtain ⟨v', w', hr, h2, h3, _, h5⟩ := run_append_own_at (P := P) w base t o.type e i z size bytes ht hi hz hsize hby hzs hsz v n xs hown ad m c1 news hl hnews h1 h63 hbytes hbase
  unfold Oper.wp execOp
  simp only [ho, resolve, invoke, builtin, Sem.run_bind, Sem.run_pure, Result.andThen_ok, List.map_toArray, List.map_cons, List.map_nil, hs, hx, hr]
  exact hK _ _ (h v' w' h2 h3 h5)

def MadeV (w : World) (l : List Int) (e : Ending) (w' : World) : Prop :=
  ∃ A c, e = .returned (.slice A l.length c) ∧ w'.ownsRow w.heap.size 21 1 (.slice A l.length c) l.length (cl .i32 l) ∧ Below w.heap.size w w'
theorem own_shape {w : World} {base : Nat} {e : TypeId} {size n : Nat} {v : Value} {xs : List Value} (h : w.ownsRow base e size v n xs) : ∃ A c, v = .slice A n c := by
  rcases h.2 with ⟨rfl, rfl⟩ | ⟨g, cap, cur, rfl, _⟩
  · exact ⟨none, 0, rfl⟩
  · exact ⟨_, cap, rfl⟩
theorem nfd_len (l : List Int) : (nfd l).length = (dec l).length := by unfold nfd; rw [List.length_map, arr_len]

set_option maxRecDepth 100000 in
set_option maxHeartbeats 4000000 in
theorem NFD_any (N : Nat) (hN : StableOk N) (l : List Int) (A : Option Addr) (cap : Nat) (w : World) (hl : l.length ≤ 4000) (hC : C32 l) (hr : Row w w.heap.size A (cl .i32 l)) (hR : Runs N (dec l)) :
    Calls Tryz.prog 19 #[.slice A l.length cap] w (MadeV w (nfd l)) := by
  obtain ⟨i0, hi, hz0, hz1, hz2⟩ := info_split info_int32
  have HD := Lib.hid (decompose_any N hN l A cap w hl hC hr hR)
  have hdl := dec_len l
  have HNL := Lib.hid (nfd_len l)
  have HNF : Hid (nfd l = (arr [] (dec l)).map (·.1)) := Lib.hid rfl
  have hal := arr_len (dec l)
  obtain ⟨L, hL⟩ : ∃ L, arr [] (dec l) = L := ⟨_, rfl⟩
  rw [hL] at HD HNF hal
  clear hL hR hN hC hr
  go_enter Tryz.func19, Tryz.ntmps19
  go_wp2_with (first | (go_at_call 38; refine HD.out.mono ?_; rintro e w1 ⟨g, c, rfl, ho1, hb1⟩) | fail)
  have hgl := ho1.lt g rfl
  obtain ⟨b0, o0, hA0, hb0, hcc⟩ : ∃ b o, (some ⟨g, 0, none⟩ : Option Addr) = some ⟨b, o, none⟩ ∧ b < w1.heap.size ∧ ∀ k, k < (c2 L).length → w1.cell? ⟨b, o + k, none⟩ = (c2 L)[k]? := by
    refine ⟨g, 0, rfl, hgl.2, fun k hk => ?_⟩
    rw [Nat.zero_add]
    exact World.ownsRow.cellAt ho1 k (by rw [← ho1.1]; exact hk)
  cases hA0
  go_loopg [3, 9] L.length (fun m s3 s9 wr => ∃ k : Nat, s9 = .int .i64 (k : Int) ∧ m = L.length - k ∧ k ≤ L.length ∧ wr.ownsRow w.heap.size 21 1 s3 k (cl .i32 ((L.take k).map (·.1))) ∧ Below w.heap.size w wr ∧ s3.ownBlock ≠ some g ∧ g < wr.heap.size ∧ Hid (∀ t, t < (c2 L).length → wr.cell? ⟨g, 0 + t, none⟩ = (c2 L)[t]?))
  case atStart => exact ⟨0, rfl, rfl, Nat.zero_le _, World.ownsRow_nil _ _ _ _, hb1, by simp [Value.ownBlock], hgl.2, Lib.hid hcc⟩
  case round =>
    obtain ⟨k, rfl, rfl, hk, hO, hB, hne, hgr, HCC⟩ := hrel
    by_cases hlt : k < L.length
    · have hltz : (k : Int) < (L.length : Int) := by omega
      have HTK : Hid ((L.take (k + 1)).map (·.1) = (L.take k).map (·.1) ++ [L[k].1]) := Lib.hid (by rw [List.take_add_one, List.getElem?_eq_getElem hlt, List.map_append]; rfl)
      have hx' : L[k]? = some L[k] := List.getElem?_eq_getElem hlt
      obtain ⟨x, hx⟩ : ∃ x, L[k] = x := ⟨_, rfl⟩
      rw [hx] at HTK hx'
      clear hx
      obtain ⟨c0, c1⟩ := row_c2 HCC.out hx'
      obtain ⟨x1, x2⟩ := x
      dsimp only at c0 c1 HTK
      rw [Nat.zero_add] at c0 c1
      go_upto_region 5 with fail
      have hg4 := alloc_heap_new' wr (.cells #[.int .i32 x1, .int .u8 x2] 60)
      have hO4 := hO.alloc (.cells #[.int .i32 x1, .int .u8 x2] 60)
      have hB4 : Below w.heap.size w (wr.alloc (.cells #[.int .i32 x1, .int .u8 x2] 60)) := hB.alloc hB.size _
      have hcc4 : ∀ t, t < (c2 L).length → (wr.alloc (.cells #[.int .i32 x1, .int .u8 x2] 60)).cell? ⟨g, 0 + t, none⟩ = (c2 L)[t]? := fun t ht => by
        rw [((Below.refl wr.heap.size wr).alloc (Nat.le_refl _) (.cells #[.int .i32 x1, .int .u8 x2] 60)).cell (p := ⟨g, 0 + t, none⟩) hgr]; exact HCC.out t ht
      have HCC4 := Lib.hid hcc4
      have hgr4 : g < (wr.alloc (.cells #[.int .i32 x1, .int .u8 x2] 60)).heap.size := Nat.lt_of_lt_of_le hgr (le_alloc wr _)
      clear hcc4
      generalize wr.alloc (.cells #[.int .i32 x1, .int .u8 x2] 60) = W at hg4 hO4 hB4 HCC4 hgr4 ⊢
      generalize wr.heap.size = X at hg4 ⊢
      obtain ⟨d0, d1, f0, f1⟩ := boxC hg4
      clear hO hB c0 c1 HCC
      go_wp2_with (first | (at_builtin; refine wpList_append_own2 _ rfl _ _ 22 rfl w.heap.size 21 i0 (.int .i32 0) 1 4 Tryz.underlying22 hi hz0 hz1 hz2 rfl (by decide) _ k _ rfl (hO4.alloc _) _ 1 1 [.int .i32 x1] rfl rfl (news_at rfl) (by simp [Value.oneCell']) (by unfold maxLen; omega) (by omega) (hB4.alloc hB4.size _).size ?_; intro v5 w5 hO5 hg5 hor5) | fail)
      have hsz := le_alloc W (.cells #[.int .i32 x1] 21)
      go_roundg (L.length - (k + 1))
      case measure => omega
      case rel =>
        refine ⟨k + 1, by go_num, rfl, by omega, ?_, (hB4.alloc hB4.size (.cells #[.int .i32 x1] 21)).grown hg5 (hB4.alloc hB4.size _).size (fun j e => (hO4.lt j e).1), ?_, Nat.lt_of_lt_of_le hgr4 (Nat.le_trans hsz hg5.size), Lib.hid fun t ht => ?_⟩
        · rw [HTK.out, show cl .i32 ((L.take k).map (·.1) ++ [x1]) = cl .i32 ((L.take k).map (·.1)) ++ [.int .i32 x1] from by simp [cl]]
          exact hO5
        · rcases hor5 with h | h
          · rw [h]; exact hne
          · rw [h]; intro e; injection e with e; omega
        · rw [← HCC4.out t ht, ← ((Below.refl W.heap.size W).alloc (Nat.le_refl _) (.cells #[.int .i32 x1] 21)).cell (p := ⟨g, 0 + t, none⟩) hgr4]
          exact World.cell?_of_block (hg5.block g (Nat.lt_of_lt_of_le hgr4 hsz) (Ne.symm hne))
    · obtain rfl : k = L.length := by omega
      have hltz : ¬ ((L.length : Nat) : Int) < (L.length : Int) := by omega
      go_wp2_with fail
      go_ret
      rw [List.take_length] at hO
      have hnl : (nfd l).length = L.length := HNL.out.trans hal.symm
      obtain ⟨A, c, rfl⟩ := own_shape hO
      exact ⟨A, c, by rw [hnl]; rfl, by rw [hnl, HNF.out]; exact hO, hB⟩

theorem NFC_any (N : Nat) (hN : StableOk N) (l : List Int) (A : Option Addr) (cap : Nat) (w : World) (hl : l.length ≤ 4000) (hC : C32 l) (hr : Row w w.heap.size A (cl .i32 l)) (hR : Runs N (dec l)) :
    Calls Tryz.prog 22 #[.slice A l.length cap] w (Made1 w (nfc l)) := by
  have HD := Lib.hid (decompose_any N hN l A cap w hl hC hr hR)
  have hdl := dec_len l
  have hal := arr_len (dec l)
  have hw2 := arr_w2 (dec_w2 hC)
  have HE : Hid (nfc l = comp (arr [] (dec l))) := Lib.hid rfl
  rw [HE.out]
  obtain ⟨L, hL⟩ : ∃ L, arr [] (dec l) = L := ⟨_, rfl⟩
  rw [hL] at HD hal hw2 ⊢
  have HC := Lib.hid (fun A cap w => compose_any L A cap w (by omega) hw2)
  clear hL hR hN hC hr hw2 HE hal hdl
  go_enter Tryz.func22, Tryz.ntmps22
  go_wp2_with (first | (go_at_call 38; refine HD.out.mono ?_; rintro e w1 ⟨g, c, rfl, ho1, hb1⟩; have hr1 := Row.of_own ho1) | (go_at_call 40; refine (HC.out _ _ _ hr1).mono ?_; rintro e w2 ⟨g2, c2, rfl, ho2, hb2⟩) | fail)
  go_ret
  exact ⟨g2, c2, rfl, own_down ho2 hb1.size, hb1.trans (hb2.mono hb1.size)⟩

theorem comp_len_le (l : List C) (h : W2 l) : (comp l).length ≤ l.length := by rw [comp_at]; exact (stAt_inv h l.length (Nat.le_refl _)).1
theorem nfc_len (l : List Int) (h : C32 l) : (nfc l).length ≤ l.length * 5 := by
  have h1 := comp_len_le (arr [] (dec l)) (arr_w2 (dec_w2 h))
  rw [arr_len] at h1
  have := dec_len l
  unfold nfc
  omega
theorem Row.up {w w' : World} {A : Option Addr} {xs : List Value} (h : Row w w.heap.size A xs) (hb : Below w.heap.size w w') : Row w' w'.heap.size A xs := (h.below hb).mono hb.size
theorem Is_any (N : Nat) (hN : StableOk N) (l : List Int) (A : Option Addr) (cap : Nat) (w : World) (hl : l.length ≤ 4000) (hC : C32 l) (hr : Row w w.heap.size A (cl .i32 l)) (hR : Runs N (dec l)) :
    Calls Tryz.prog 23 #[.slice A l.length cap] w (IsB (decide (nfc l = l)) w) := by
  have HD := Lib.hid (NFC_any N hN l A cap w hl hC hr hR)
  have hnl := nfc_len l hC
  obtain ⟨R, hR'⟩ : ∃ R, nfc l = R := ⟨_, rfl⟩
  rw [hR'] at HD hnl ⊢
  clear hR' hR hN hC
  go_enter Tryz.func23, Tryz.ntmps23
  go_wp2_with (first | (go_at_call 22; refine HD.out.mono ?_; rintro e w1 ⟨g, c, rfl, ho1, hb1⟩; have hr1 := Row.of_own ho1) | (go_at_call 41; refine (Equal_any R l _ _ _ _ _ _ _ rfl rfl (by omega) (by omega) hr1 (hr.up hb1)).mono ?_; rintro e w2 ⟨rfl, hb2⟩) | fail)
  go_ret
  exact ⟨rfl, hb1.trans (hb2.mono hb1.size)⟩
end Go.Proofs.YtenfdnnagijfnaaGreatDoor
