/-
  norm: decompose.
-/
import Derived.Test.YtenfdnnagijfnaaGreatDoorNormP
import Derived.Test.YtenfdnnagijfnaaGreatDoorUcdOf2
import Derived.OwnWalk
namespace Go.Proofs.YtenfdnnagijfnaaGreatDoor
open Go.RowKit Norm

theorem own_known {w : World} {base : Nat} {e : TypeId} {size n : Nat} {v : Value} {xs : List Value} (h : w.ownsRow base e size v n xs) (hn : 0 < n) : ∃ g c, v = .slice (some ⟨g, 0, none⟩) n c ∧ n ≤ c ∧ c ≤ maxLen ∧ base ≤ g ∧ g < w.heap.size := by
  rcases h.2 with ⟨rfl, rfl⟩ | ⟨g, cap, cur, rfl, hb, hg, hc, hm, _⟩
  · omega
  · exact ⟨g, cap, rfl, hc, hm, hb, (Array.getElem?_eq_some_iff.1 hg).1⟩

/-- append onto a known row -/
theorem wpList_append_at {P : Program} (w : World) {ops : Array Oper} {rest : List Oper} {o : Oper} {a : Act} {Q : Exit → Act → World → Prop} (hgd : o.guard = none) (s x : Operand) (t : TypeId)
    (ho : o.op = .call { callee := .builtin .append, args := #[s, x], argTypes := #[t, t] })
    (base : Nat) (e : TypeId) (i : TypeInfo) (z : Value) (size bytes : Nat) (ht : P.underlying t = some (.slice e)) (hi : P.info? e = some i) (hz : i.zero = some z)
    (hsize : i.size = size) (hby : i.bytes = bytes) (hzs : z.cells.size = size) (hsz : 0 < size) (g n c : Nat) (xs : List Value) (hs : a.eval s = .slice (some ⟨g, 0, none⟩) n c) (hown : w.ownsRow base e size (.slice (some ⟨g, 0, none⟩) n c) n xs)
    (ad : Addr) (m c1 : Nat) (news : List Value) (hx : a.eval x = .slice (some ad) m c1) (hl : news.length = m * size) (hnews : ∀ j u, news[j]? = some u → w.cell? (ad.add j) = some u) (h1 : ∀ u ∈ news, u.oneCell' = true) (hm : 0 < n + m)
    (h63 : n + m ≤ maxLen) (hbytes : (n + m) * bytes ≤ 140737488355328) (hbase : base ≤ w.heap.size)
    (h : ∀ g' c' w', w'.ownsRow base e size (.slice (some ⟨g', 0, none⟩) (n + m) c') (n + m) (xs ++ news) → w.grownBy w' (some g) → (g' = g ∨ g' = w.heap.size) → wpList P ops Q rest (a.put o.dst (.slice (some ⟨g', 0, none⟩) (n + m) c')) w') : wpList P ops Q (o :: rest) a w := by
  refine wpList_plain hgd fun K hK => ?_
  obtain ⟨v', w', hr, h2, h3, _, h5⟩ := run_append_own_at (P := P) w base t o.type e i z size bytes ht hi hz hsize hby hzs hsz _ n xs hown ad m c1 news hl hnews h1 h63 hbytes hbase
  obtain ⟨g', c', rfl, _⟩ := own_known h2 hm
  unfold Oper.wp execOp
  simp only [ho, resolve, invoke, builtin, Sem.run_bind, Sem.run_pure, Result.andThen_ok, List.map_toArray, List.map_cons, List.map_nil, hs, hx, hr]
  exact hK _ _ (h g' c' w' h2 h3 (by simpa [Value.ownBlock] using h5))

theorem news_at {w : World} {cs : Array Value} {t : TypeId} {news : List Value} (h : cs.toList = news) : ∀ j u, news[j]? = some u → (w.alloc (.cells cs t)).cell? ((⟨w.heap.size, 0, none⟩ : Addr).add j) = some u := by
  intro j u hu
  subst h
  rw [Go.WideShapes.add_plain, Nat.zero_add]
  rw [Array.getElem?_toList] at hu
  rw [← hu]
  simp only [World.cell?, heap_alloc_new w (.cells cs t)]
  rfl

theorem info_classed : (Tryz.prog.info? 60).map (fun i => (i.zero, i.size, i.bytes)) = some (some (.agg #[.int .i32 0, .int .u8 0]), 2, 8) := by kernel_rfl
abbrev C32 (l : List Int) : Prop := ∀ x ∈ l, -2147483648 ≤ x ∧ x ≤ 2147483647
def dec1 (r : Int) : List C := (full r).map classed
theorem dec_eq (l : List Int) : dec l = l.flatMap dec1 := rfl
theorem dec_take {l : List Int} {k : Nat} (hk : k < l.length) : dec (l.take (k + 1)) = dec (l.take k) ++ dec1 l[k] := by
  rw [dec_eq, dec_eq, List.take_add_one, List.flatMap_append, List.getElem?_eq_getElem hk]
  simp
theorem dec1_len (r : Int) : (dec1 r).length ≤ 5 := by unfold dec1; rw [List.length_map]; exact full_len r
theorem dec_len (l : List Int) : (dec l).length ≤ l.length * 5 := by
  induction l with
  | nil => simp [dec]
  | cons x t ih => rw [dec_eq] at ih ⊢; rw [List.flatMap_cons, List.length_append, List.length_cons]; have := dec1_len x; omega
theorem fullN_pos : ∀ k r, 0 < (fullN k r).length
  | 0, r => by simp [fullN]
  | k + 1, r => by
    unfold fullN
    split
    · exact fullN_pos k _
    · split
      · exact fullN_pos k _
      · split <;> simp
theorem full_pos (r : Int) : 0 < (full r).length := fullN_pos 4 r

theorem arr_length : ∀ (l acc : List C), (arr acc l).length = acc.length + l.length
  | [], acc => by simp [arr, isort_len]
  | c :: t, acc => by
    unfold arr
    split
    · rw [List.length_append, List.length_cons, arr_length t [], isort_len]; simp
    · rw [arr_length t (acc ++ [c])]; simp; omega
theorem arr_len (l : List C) : (arr [] l).length = l.length := by rw [arr_length]; simp
def Made2 (w : World) (l : List C) (e : Ending) (w' : World) : Prop :=
  ∃ g c, e = .returned (.slice (some ⟨g, 0, none⟩) l.length c) ∧ w'.ownsRow w.heap.size 60 2 (.slice (some ⟨g, 0, none⟩) l.length c) l.length (c2 l) ∧ Below w.heap.size w w'
theorem run_ccc (p : List Int) (w : World) : (Instr.field 32 (pv p) 3).run Tryz.prog w = .ok (.int .u8 (Ucd.g p 3)) w := by kernel_rfl

set_option maxRecDepth 100000 in
set_option maxHeartbeats 4000000 in
theorem decompose_any (N : Nat) (hN : StableOk N) (l : List Int) (A : Option Addr) (cap : Nat) (w : World) (hl : l.length ≤ 4000) (hC : C32 l) (hr : Row w w.heap.size A (cl .i32 l)) (hR : Runs N (dec l)) :
    Calls Tryz.prog 38 #[.slice A l.length cap] w (Made2 w (arr [] (dec l))) := by
  obtain ⟨i0, hi, hz0, hz1, hz2⟩ := info_split info_classed
  have HZ := Lib.hid hz2
  go_enter Tryz.func38, Tryz.ntmps38
  go_wp2_with (first | (at_make; refine wpList_make_own _ rfl _ _ 57 rfl w.heap.size 60 i0 _ 2 Tryz.underlying57 hi hz0 hz1 .i64 .i64 _ l.length rfl rfl rfl (by rw [HZ.out]; omega) (by unfold maxLen; omega) (Nat.le_refl _) ?_; intro w1 hown1 hgrow1) | fail)
  have hB1 : Below w.heap.size w w1 := (Below.refl _ _).grown hgrow1 (Nat.le_refl _) (fun j e => by cases e)
  go_loopg [3, 13] l.length (fun m s3 s13 wr => ∃ k g c : Nat, s13 = .int .i64 (k : Int) ∧ m = l.length - k ∧ k ≤ l.length ∧ s3 = .slice (some ⟨g, 0, none⟩) (dec (l.take k)).length c ∧ wr.ownsRow w.heap.size 60 2 (.slice (some ⟨g, 0, none⟩) (dec (l.take k)).length c) (dec (l.take k)).length (c2 (dec (l.take k))) ∧ Below w.heap.size w wr)
  case atStart => exact ⟨0, w.heap.size, l.length, rfl, rfl, Nat.zero_le _, rfl, hown1, hB1⟩
  case round =>
    obtain ⟨k, g, c, rfl, rfl, hk, rfl, hO, hB⟩ := hrel
    by_cases hlt : k < l.length
    · have hltz : (k : Int) < (l.length : Int) := by omega
      obtain ⟨r, hx⟩ : ∃ r, l[k] = r := ⟨_, rfl⟩
      have hx32 := hC _ (List.getElem_mem hlt)
      have hdt := dec_take hlt
      obtain ⟨b0, o0, rfl, hb0, hcc⟩ := (hr.below hB).at_ (by simp; omega)
      have c0 := hcc k (by simpa using hlt)
      rw [List.getElem?_map, List.getElem?_eq_getElem hlt, Option.map_some, hx] at c0
      rw [hx] at hx32 hdt
      clear hcc hx
      have HDT := Lib.hid hdt
      have HS := Lib.hid (fun w => Split_any r w hx32.1 hx32.2)
      have hfl := full_len r
      have hfp := full_pos r
      have hnl : (dec (l.take k)).length ≤ 20000 := by have := dec_len (l.take k); rw [List.length_take] at this; omega
      clear hdt
      go_wp2_with (first | (go_at_call 17; refine (HS.out _).mono ?_; rintro e w2 ⟨v2, rfl, ho2', hb2⟩; obtain ⟨g2, q2, rfl, hq2, hq3, hg2, hg3⟩ := own_known ho2' (by simp; exact hfp)) | fail)
      have hgl := hO.lt g rfl
      have hne : g ≠ g2 := by omega
      have hcs : ∀ t, t < (full r).length → w2.cell? ⟨g2, t, none⟩ = some (.int .i32 (full r)[t]!) := by
        intro t ht
        have h := World.ownsRow.cellAt ho2' t (by simpa using ht)
        rw [h, List.nil_append, List.getElem?_map, List.getElem?_eq_getElem ht, getElem!_pos _ t ht]
        rfl
      have hO2 := own_below hO hb2
      have hB2 := hB.trans (hb2.mono hB.size)
      clear ho2' hq2 hq3 hO HS hb2 c0 hx32 hR hN hC hgl hg2 hb0
      obtain ⟨D, hD⟩ : ∃ D, dec (l.take k) = D := ⟨_, rfl⟩
      rw [hD] at HDT hO2 hnl ⊢
      clear hD
      obtain ⟨F, hF⟩ : ∃ F, full r = F := ⟨_, rfl⟩
      have HDT2 : Hid (dec (l.take (k + 1)) = D ++ F.map classed) := Lib.hid (by rw [← hF]; exact HDT.out)
      rw [hF] at hcs hfl hfp ⊢
      clear HDT hF
      go_loopg [3, 20] F.length (fun m s3 s20 w3 => ∃ j g' c' : Nat, s20 = .int .i64 (j : Int) ∧ m = F.length - j ∧ j ≤ F.length ∧ s3 = .slice (some ⟨g', 0, none⟩) (D.length + j) c' ∧ w3.ownsRow w.heap.size 60 2 (.slice (some ⟨g', 0, none⟩) (D.length + j) c') (D.length + j) (c2 (D ++ (F.take j).map classed)) ∧ Below w.heap.size w w3 ∧ g' ≠ g2 ∧ g2 < w3.heap.size ∧ Hid (∀ t, t < F.length → w3.cell? ⟨g2, t, none⟩ = some (.int .i32 F[t]!)))
      case atStart => exact ⟨0, g, c, rfl, rfl, Nat.zero_le _, rfl, by simpa using hO2, hB2, hne, hg3, Lib.hid hcs⟩
      case round =>
        obtain ⟨j, g', c', rfl, rfl, hj, rfl, hO3, hB3, hne3, hlt3, HCS⟩ := hrel
        by_cases hjl : j < F.length
        · have hjz : (j : Int) < (F.length : Int) := by omega
          have c3 := HCS.out j hjl
          have HNX : Hid (F.take (j + 1) = F.take j ++ [F[j]!]) := Lib.hid (by rw [List.take_add_one, List.getElem?_eq_getElem hjl, getElem!_pos _ j hjl]; rfl)
          obtain ⟨x, hx⟩ : ∃ x, F[j]! = x := ⟨_, rfl⟩
          rw [hx] at c3 HNX
          clear hx
          have HOF := Lib.hid (fun w => Of_any x w)
          have HRC := run_ccc (Ucd.of x)
          obtain ⟨p, hp⟩ : ∃ p, Ucd.of x = p := ⟨_, rfl⟩
          have HP : Hid (encC (classed x) = [.int .i32 x, .int .u8 (Ucd.g p 3)]) := Lib.hid (by rw [← hp]; rfl)
          rw [hp] at HOF HRC
          clear hp
          go_wp2_with (first | (go_at_call 24; refine (HOF.out _).mono ?_; rintro e w4 ⟨rfl, hb4⟩; have hO4 := own_below hO3 hb4; have hB4 := hB3.trans (hb4.mono hB3.size)) | (at_builtin; refine wpList_append_at _ rfl _ _ 57 rfl w.heap.size 60 i0 _ 2 8 Tryz.underlying57 hi hz0 hz1 hz2 rfl (by decide) g' (D.length + j) c' _ rfl (hO4.alloc _) ⟨w4.heap.size, 0, none⟩ 1 1 [.int .i32 x, .int .u8 (Ucd.g p 3)] rfl rfl (news_at rfl) (by simp [Value.oneCell']) (by omega) (by unfold maxLen; omega) (by omega) (hB4.alloc hB4.size _).size ?_; intro g5 c5 w5 hown5 hg5 hor5) | fail)
          have hgl3 := (hO3.lt g' rfl).1
          have hBx : Below wr.heap.size wr (w4.alloc (.cells #[.int .i32 x, .int .u8 (Ucd.g p 3)] 60)) := hb4.alloc hb4.size _
          have hB5 : Below w.heap.size w w5 := (hB4.alloc hB4.size _).grown hg5 (hB4.alloc hB4.size _).size (fun k e => by cases e; exact hgl3)
          have hsz := hBx.size
          go_roundg (F.length - (j + 1))
          case measure => omega
          case rel =>
            refine ⟨j + 1, g5, c5, by go_num, rfl, by omega, rfl, ?_, hB5, ?_, Nat.lt_of_lt_of_le hlt3 (Nat.le_trans hsz hg5.size), Lib.hid fun t ht => ?_⟩
            · rw [HNX.out, List.map_append, ← List.append_assoc, c2_append]
              have e : c2 ([x].map classed) = [.int .i32 x, .int .u8 (Ucd.g p 3)] := by rw [← HP.out]; simp [c2]
              rw [e]
              exact hown5
            · rcases hor5 with rfl | rfl
              · exact hne3
              · omega
            · rw [← HCS.out t ht, ← hBx.cell (p := ⟨g2, t, none⟩) hlt3]
              exact World.cell?_of_block (hg5.block g2 (Nat.lt_of_lt_of_le hlt3 hsz) (by simpa using Ne.symm hne3))
        · obtain rfl : j = F.length := by omega
          have hjz : ¬ ((F.length : Nat) : Int) < (F.length : Int) := by omega
          go_wp2_with fail
          go_roundg (l.length - (k + 1))
          case measure => omega
          case rel =>
            refine ⟨k + 1, g', c', by go_num, rfl, by omega, ?_, ?_, hB3⟩
            · rw [HDT2.out, List.length_append, List.length_map]
            · rw [HDT2.out, List.length_append, List.length_map]
              rw [List.take_length] at hO3
              exact hO3
    · obtain rfl : k = l.length := by omega
      have hltz : ¬ ((l.length : Nat) : Int) < (l.length : Int) := by omega
      rw [List.take_length] at hO ⊢
      have HA := Lib.hid (fun (w : World) base (h : w.ownsRow base 60 2 (.slice (some ⟨g, 0, none⟩) (dec l).length c) (dec l).length (c2 (dec l))) => arrange_any N hN base g c (dec l).length (dec l) w rfl (by have := dec_len l; omega) hR h)
      have hln : (arr [] (dec l)).length = (dec l).length := arr_len _
      have hgl := (hO.lt g rfl).1
      clear hN hC hR
      go_wp2_with (first | (go_at_call 59; refine (HA.out _ _ hO).mono ?_; rintro e w5 ⟨rfl, hO5, hg5⟩) | fail)
      go_ret
      exact ⟨g, c, by rw [hln]; rfl, by rw [hln]; exact hO5, hB.grown hg5 hB.size (fun k e => by cases e; exact hgl)⟩
end Go.Proofs.YtenfdnnagijfnaaGreatDoor
