/-
  The contract of puny.Decode: the walk.
-/
import Derived.Test.YtcdjjodiiaahfaaPunyM
import Derived.Shelf.RegionOpen
namespace Go.Proofs.Ytcdjjodiiaahfaa
open Go.RowKit Go.Shelf Puny

attribute [local go_sem] Oper.semAt_some

/-- what a text says: its scalars, or none -/
def decT (s : List UInt8) : Option (List Nat) → Prop := fun r => ∃ basic digits ok, PartsIs s basic digits ok ∧ r = if ok then decD (nat8 basic) digits else none

def Decoded (s : ByteArray) (w : World) (e : Ending) (w' : World) : Prop :=
  (∃ out v, decT s.data.toList (some out) ∧ e = .returned (.tuple #[v, .int .i64 0]) ∧ w'.ownsRow w.heap.size 21 1 v out.length (cn out) ∧ Below w.heap.size w w') ∨
  (decT s.data.toList none ∧ e = .returned (.tuple #[.slice none 0 0, .int .i64 40]) ∧ Below w.heap.size w w')

theorem alloc6 (w : World) (a b c d e f : Obj) :
    ((((((w.alloc a).alloc b).alloc c).alloc d).alloc e).alloc f).drew.heap[w.heap.size]? = some a ∧ ((((((w.alloc a).alloc b).alloc c).alloc d).alloc e).alloc f).drew.heap[w.heap.size + 1]? = some b ∧
    ((((((w.alloc a).alloc b).alloc c).alloc d).alloc e).alloc f).drew.heap[w.heap.size + 1 + 1]? = some c ∧ ((((((w.alloc a).alloc b).alloc c).alloc d).alloc e).alloc f).drew.heap[w.heap.size + 1 + 1 + 1]? = some d ∧
    ((((((w.alloc a).alloc b).alloc c).alloc d).alloc e).alloc f).drew.heap[w.heap.size + 1 + 1 + 1 + 1]? = some e ∧ ((((((w.alloc a).alloc b).alloc c).alloc d).alloc e).alloc f).drew.heap[w.heap.size + 1 + 1 + 1 + 1 + 1]? = some f ∧
    ((((((w.alloc a).alloc b).alloc c).alloc d).alloc e).alloc f).drew.heap.size = w.heap.size + 6 ∧ Below w.heap.size w ((((((w.alloc a).alloc b).alloc c).alloc d).alloc e).alloc f).drew := by
  have up : ∀ {j : Nat} {o : Obj}, (((w.alloc a).alloc b).alloc c).heap[j]? = some o → ((((((w.alloc a).alloc b).alloc c).alloc d).alloc e).alloc f).drew.heap[j]? = some o := fun {j o} h => by
    have hlt := (Array.getElem?_eq_some_iff.1 h).1
    have hB := (((Below.refl _ (((w.alloc a).alloc b).alloc c)).alloc (Nat.le_refl _) d).alloc (by simp) e).alloc (by simp) f
    exact (hB.block j hlt).trans h
  have h1 := alloc3_0 ((((w.alloc a).alloc b).alloc c)) d e f
  have h2 := alloc3_1 ((((w.alloc a).alloc b).alloc c)) d e f
  have h3 := alloc3_2 ((((w.alloc a).alloc b).alloc c)) d e f
  rw [World.size_alloc, World.size_alloc, World.size_alloc] at h1 h2 h3
  refine ⟨up (alloc3_0 w a b c), up (alloc3_1 w a b c), up (alloc3_2 w a b c), h1, h2, h3, ?_, ?_⟩
  · show ((((((w.alloc a).alloc b).alloc c).alloc d).alloc e).alloc f).heap.size = _
    simp
  · have hB := ((((((Below.refl _ w).alloc (Nat.le_refl _) a).alloc (by simp) b).alloc (by simp; omega) c).alloc (by simp; omega) d).alloc (by simp; omega) e).alloc (by simp; omega) f
    exact ⟨hB.os, hB.tape, hB.output, hB.size, hB.block⟩
theorem results_cell2 {w : World} {B2 B3 : Nat} {a b : Value} {tmps : Array Value} (h2 : w.heap[B2]? = some (.cells #[a] 22 (0, 0))) (h3 : w.heap[B3]? = some (.cells #[b] 24 (0, 0))) (t2 : tmps[2]? = some (.pointer (some ⟨B2, 0, none⟩)) := by rfl) (t3 : tmps[3]? = some (.pointer (some ⟨B3, 0, none⟩)) := by rfl) :
    (results Try.f11 tmps).run Try.prog w = .ok (.tuple #[a, b]) w := by
  obtain ⟨c2, _⟩ := box_cell h2
  obtain ⟨c3, _⟩ := box_cell h3
  simp [results, Try.results11, go_sem, c2, c3, t2, t3]

theorem parts_ascii {l b d : List UInt8} (h : PartsIs l b d true) : (∀ x ∈ b, x.toNat < 128) ∧ b.length + d.length ≤ l.length := by
  rcases h with ⟨_, rfl, rfl, _⟩ | ⟨a, t, rfl, _, ⟨_, rfl, rfl, h⟩ | ⟨h1, rfl, rfl, _⟩⟩
  · exact ⟨by simp, by simp⟩
  · cases h
  · exact ⟨h1, by simp⟩

set_option maxRecDepth 100000 in
set_option maxHeartbeats 2000000 in
theorem Decode_in (n : Nat) (hn : 4 ≤ n) (s : ByteArray) (w : World) (hs : s.size ≤ 10000) :
    CallsIn Fence.wide n Try.prog 11 #[.string s] w (Decoded s w) := by
  have h1 : 1 ≤ n := by omega
  have hmx : Try.prog.follows .mixedOrders = true := by kernel_rfl
  refine callsIn_of_wp_marks Try.func11 rfl trivial ?_ rfl
  simp only [Try.ntmps11, List.size_toArray, List.length_cons, List.length_nil, Nat.reduceAdd, Nat.reduceSub, Array.replicate_succ, Array.replicate_zero, List.push_toArray, List.append_toArray, List.nil_append, List.cons_append]
  gi_wp2_with fail
  refine ⟨trivial, (callsIn_wide.2 (parts_any s _ (by omega))).mono ?_⟩
  rintro e w' ⟨bs, ds, ok, rfl, hparts, q, rfl⟩
  have hb2 : (((w.alloc (.cells #[.slice none 0 0] 22)).alloc (.cells #[.int .i64 0] 24)).drewN q).heap[w.heap.size]? = some (.cells #[.slice none 0 0] 22 (0, 0)) := alloc2_0 w _ _
  have hb3 : (((w.alloc (.cells #[.slice none 0 0] 22)).alloc (.cells #[.int .i64 0] 24)).drewN q).heap[w.heap.size + 1]? = some (.cells #[.int .i64 0] 24 (0, 0)) := alloc2_1 w _ _
  have hBp : Below w.heap.size w (((w.alloc (.cells #[.slice none 0 0] 22)).alloc (.cells #[.int .i64 0] 24)).drewN q) := by
    have h := ((Below.refl w.heap.size w).alloc (Nat.le_refl _) (.cells #[.slice none 0 0] 22)).alloc (by simp) (.cells #[.int .i64 0] 24)
    exact ⟨h.os, h.tape, h.output, h.size, h.block⟩
  have hsz : (((w.alloc (.cells #[.slice none 0 0] 22)).alloc (.cells #[.int .i64 0] 24)).drewN q).heap.size = w.heap.size + 2 := by
    show ((w.alloc (.cells #[.slice none 0 0] 22)).alloc (.cells #[.int .i64 0] 24)).heap.size = _
    simp
  have HPARTS := Lib.hid hparts
  generalize ((w.alloc (.cells #[.slice none 0 0] 22)).alloc (.cells #[.int .i64 0] 24)).drewN q = W at hb2 hb3 hBp hsz ⊢
  obtain ⟨c2, f2⟩ := box_cell hb2
  obtain ⟨c3, f3⟩ := box_cell hb3
  cases ok with
  | false =>
    clear hparts
    gi_wp2
    exact ⟨_, results_cell2 (heap_set_ne (by omega) |>.trans (heap_set1 hb2)) (heap_set1 ((heap_set_ne (by omega)).trans hb3)), .inr ⟨⟨_, _, _, HPARTS.out, rfl⟩, rfl, (hBp.setCell (p := ⟨w.heap.size, 0, none⟩) (Nat.le_refl _) _).setCell (p := ⟨w.heap.size + 1, 0, none⟩) (Nat.le_succ _) _⟩⟩
  | true =>
    obtain ⟨hasc, hlen⟩ := parts_ascii hparts
    have hbs : bs.size ≤ 10000 := by have : s.data.toList.length = s.size := by simp
                                     have : bs.data.toList.length = bs.size := by simp
                                     omega
    have hds : ds.size ≤ 10000 := by have : s.data.toList.length = s.size := by simp
                                     have : ds.data.toList.length = ds.size := by simp
                                     omega
    obtain ⟨mc, hconv, hmc1, hmc2⟩ := conv_runes bs W hasc (by omega)
    have HASC := Lib.hid hasc
    have HLEN := Lib.hid hlen
    clear hasc hlen hparts
    gi_wp2_with (first
      | (refine ⟨trivial, ?_⟩; gi_at_call 31; refine (read_any _ _ _ _).mono ?_; rintro e w' ⟨rfl, rfl⟩)
      | fail)
    obtain ⟨WL, hWL⟩ : ∃ WL, ((((((W.alloc (.cells ((cn (nat8 bs.data.toList)).toArray ++ Array.replicate (mc - (nat8 bs.data.toList).length) (.int .i32 0)) 21)).alloc (.cells #[.slice (some ⟨w.heap.size + 2, 0, none⟩) (nat8 bs.data.toList).length mc] 22)).alloc (.cells #[.int .i64 128] 2)).alloc (.cells #[.int .i64 0] 2)).alloc (.cells #[.string ds] 9)).alloc (.cells #[.int .i64 ((nat8 bs.data.toList).length : Int)] 2)).drew = WL := ⟨_, rfl⟩
    have ha6 := alloc6 W (.cells ((cn (nat8 bs.data.toList)).toArray ++ Array.replicate (mc - (nat8 bs.data.toList).length) (.int .i32 0)) 21) (.cells #[.slice (some ⟨w.heap.size + 2, 0, none⟩) (nat8 bs.data.toList).length mc] 22) (.cells #[.int .i64 128] 2) (.cells #[.int .i64 0] 2) (.cells #[.string ds] 9) (.cells #[.int .i64 ((nat8 bs.data.toList).length : Int)] 2)
    rw [hWL] at ha6
    rw [hWL]
    clear hWL
    rw [hsz] at ha6
    obtain ⟨a0, a7, a8, a9, al, ah, hWs, hBL⟩ := ha6
    have hbn : (nat8 bs.data.toList).length = bs.size := by simp [nat8]
    have b2L := (hBL.block w.heap.size (by omega)).trans hb2
    have b3L := (hBL.block (w.heap.size + 1) (by omega)).trans hb3
    have hstart : ∀ H, w.heap.size + 8 ≤ H → DecI (nat8 bs.data.toList) w (w.heap.size + 2 + 1 + 1 + 1 + 1) w.heap.size (w.heap.size + 1) (w.heap.size + 2 + 1) (w.heap.size + 2 + 1 + 1) (w.heap.size + 2 + 1 + 1 + 1) H [] WL := fun H hH =>
      ⟨nat8 bs.data.toList, 128, 0, _, rfl, b2L, b3L, a7, a8, a9, ⟨by simp, .inr ⟨w.heap.size + 2, mc, _, rfl, by omega, a0, hmc1, hmc2, by simp; omega, by simp⟩⟩, fun j hj => .inl (by have h9 : w.heap.size + 2 = j := Option.some.inj hj; omega), hBp.trans (hBL.mono (by omega)), Nat.zero_le _, by omega, by simp⟩
    have HST := Lib.hid hstart
    have HAL := Lib.hid al
    have HAH := Lib.hid ah
    have HBP := Lib.hid (hBp.trans (hBL.mono (show w.heap.size ≤ w.heap.size + 2 by omega)))
    have HDS := Lib.hid hds
    have HBS := Lib.hid hbs
    have HBN := Lib.hid hbn
    clear hstart a0 a7 a8 a9 al ah hBL b2L b3L hb2 hb3 c2 c3 f2 f3 hconv hmc1 hmc2 hBp hsz hbn
    refine wpIn_iter (F := Fence.wide) rfl h1 (gf := 48) (lb := #[.pointer (some ⟨w.heap.size + 2 + 1 + 1 + 1 + 1, 0, none⟩), .pointer (some ⟨w.heap.size + 2 + 1 + 1 + 1 + 1 + 1, 0, none⟩)]) rfl trivial (enters_of Try.func48 (by kernel_rfl) rfl)
      (encs := encs2) (G := fun _ x => x.1 ≤ 30000000000) (S := fun xs => xs = rdL ds.data.toList (nat8 bs.data.toList).length 72 700) (Sp := fun pre => pre <+: rdL ds.data.toList (nat8 bs.data.toList).length 72 700) (N := ds.size + 1) (n0 := w.heap.size) (n1 := w.heap.size + 2 + 1 + 1 + 1 + 1) (by omega) (by omega) (fun _ => rfl)
      (fun W0 hB0 hs0 => read1_in (n - 1) (by omega) w.heap.size (w.heap.size + 2 + 1 + 1 + 1 + 1) WL.heap.size (w.heap.size + 2 + 1 + 1 + 1 + 1) (nat8 bs.data.toList).length ds HDS.out (by rw [HBN.out]; exact HBS.out) (Nat.le_refl _) (by omega) W0 hs0 ((hB0.block _ (by omega)).trans HAL.out) ((hB0.block _ (by omega)).trans HAH.out))
      (fun H pre X => DecI (nat8 bs.data.toList) w (w.heap.size + 2 + 1 + 1 + 1 + 1) w.heap.size (w.heap.size + 1) (w.heap.size + 2 + 1) (w.heap.size + 2 + 1 + 1) (w.heap.size + 2 + 1 + 1 + 1) H pre X) (fun pre X => DecX (nat8 bs.data.toList) w w.heap.size (w.heap.size + 1) pre X)
      (fun H => decI_ab (by omega) (by omega) (by omega) (by omega) (by omega) (by omega)) (decX_ab (by omega) (by omega) (by omega)) (fun H hH => HST.out H (by omega))
      (fun x a' => ∃ u0 u1 u4 u5 u6 u12 u13 u14 u15 u16 u17 u18 u19 u20 u21 u22 u23 u24 u25 u26 u27 u28 u29 u30 u31 u32 u33 u34 u35 u36 u37 u38 u39 u40 u41 u42 u43 u44 u45 u46 u47 u48 u49 u50 u51 u52 u53 u54 u55 u56 u57 u58 u59 u60 u61 u62 u63 : Value, a' = { tmps := #[u0, u1, .pointer (some ⟨w.heap.size, 0, none⟩), .pointer (some ⟨w.heap.size + 1, 0, none⟩), u4, u5, u6, .pointer (some ⟨w.heap.size + 2 + 1, 0, none⟩), .pointer (some ⟨w.heap.size + 2 + 1 + 1, 0, none⟩), .pointer (some ⟨w.heap.size + 2 + 1 + 1 + 1, 0, none⟩), .int .i64 (x.1 : Int), .bool x.2, u12, u13, u14, u15, u16, u17, u18, u19, u20, u21, u22, u23, u24, u25, u26, u27, u28, u29, u30, u31, u32, u33, u34, u35, u36, u37, u38, u39, u40, u41, u42, u43, u44, u45, u46, u47, u48, u49, u50, u51, u52, u53, u54, u55, u56, u57, u58, u59, u60, u61, u62, u63], defers := [] })
      ?assign ?body ?done ?stop
    case assign =>
      intro lp x X K hK
      simp only [encs2]
      gi_wp2
      all_goals exact hK _ ⟨_, _, _, _, _, _, _, _, _, _, _, _, _, _, _, _, _, _, _, _, _, _, _, _, _, _, _, _, _, _, _, _, _, _, _, _, _, _, _, _, _, _, _, _, _, _, _, _, _, _, _, _, _, _, _, _, _, rfl⟩
    case body =>
      rintro H lp pre ⟨d, said⟩ a' X hH hHX ⟨out, n', i, v, hins, b2, b3, b7, b8, b9, hown, hob, hBX, hil, hnl, hol⟩ ⟨u0, u1, u4, u5, u6, u12, u13, u14, u15, u16, u17, u18, u19, u20, u21, u22, u23, u24, u25, u26, u27, u28, u29, u30, u31, u32, u33, u34, u35, u36, u37, u38, u39, u40, u41, u42, u43, u44, u45, u46, u47, u48, u49, u50, u51, u52, u53, u54, u55, u56, u57, u58, u59, u60, u61, u62, u63, rfl⟩ hlen hgood
      have hn11 : 1 ≤ n - 1 - 1 := by omega
      have hgood' : d ≤ 30000000000 := hgood
      have hbl1 : (nat8 bs.data.toList).length ≤ 10000 := by rw [HBN.out]; exact HBS.out
      have hds1 := HDS.out
      have hout : out.length ≤ 20001 := by omega
      have hround := fun (X1 X2 : World) (v2 : Value) hsc h1 h2 h3 h4 => dec_round (X1 := X1) (X2 := X2) (v2 := v2) (d := d) (n1 := w.heap.size + 2 + 1 + 1 + 1 + 1) (B2 := w.heap.size) (B3 := w.heap.size + 1) (B7 := w.heap.size + 2 + 1) (B8 := w.heap.size + 2 + 1 + 1) (B9 := w.heap.size + 2 + 1 + 1 + 1) (D := WL.heap.size) (H := H) (by omega) (by omega) (by omega) (by omega) (by omega) (by omega) (by omega) (by omega) (by omega) (by omega) (by omega) (by omega) (by omega) (by omega) (by omega) (by omega) (by omega) (by omega) (by omega) (by omega) (by omega) hHX hins hsc b2 b3 b7 b8 b9 hown hob hBX hol h1 h2 h3 h4
      have hrefuse := fun (X1 : World) hx h1 => dec_refuse (b := nat8 bs.data.toList) (pre := pre) (x := (d, said)) (X1 := X1) (n1 := w.heap.size + 2 + 1 + 1 + 1 + 1) (B2 := w.heap.size) (B3 := w.heap.size + 1) (B8 := w.heap.size + 2 + 1 + 1) (D := WL.heap.size) (H := H) (by omega) (by omega) (by omega) (by omega) (by omega) (by omega) (by omega) (by omega) (by omega) (by omega) (by omega) hHX hx b2 b3 hBX h1
      have hfail := insL_fail (d := d) (ok := said) hins
      have hrl : (i + d) % (out.length + 1) ≤ out.length := by have := Nat.mod_lt (i + d) (show 0 < out.length + 1 by omega); omega
      have hql := Nat.div_le_self (i + d) (out.length + 1)
      have hqi : ((i : Int) + (d : Int)) / ((out.length : Int) + 1) = (((i + d) / (out.length + 1) : Nat) : Int) := by
        rw [show (i : Int) + (d : Int) = ((i + d : Nat) : Int) by omega, show (out.length : Int) + 1 = ((out.length + 1 : Nat) : Int) by omega]; simp
      have hri : ((i : Int) + (d : Int)) % ((out.length : Int) + 1) = (((i + d) % (out.length + 1) : Nat) : Int) := by
        rw [show (i : Int) + (d : Int) = ((i + d : Nat) : Int) by omega, show (out.length : Int) + 1 = ((out.length + 1 : Nat) : Int) by omega]; simp
      obtain ⟨q, hq⟩ : ∃ q, (i + d) / (out.length + 1) = q := ⟨_, rfl⟩
      obtain ⟨r, hr⟩ : ∃ r, (i + d) % (out.length + 1) = r := ⟨_, rfl⟩
      simp only [hq, hr] at hround hfail
      rw [hr] at hrl hri
      rw [hq] at hql hqi
      have hscq := sca_iff (n' + q)
      have hnq : ((n' + q : Nat) : Int) = (n' : Int) + (q : Int) := by omega
      rw [hnq] at hscq
      obtain ⟨A, c, rfl⟩ := own_slice hown
      have n8 := own_ne hown b8 (by decide)
      obtain ⟨c2, f2⟩ := box_cell b2
      obtain ⟨c3, f3⟩ := box_cell b3
      obtain ⟨c7, f7⟩ := box_cell b7
      obtain ⟨c8, f8⟩ := box_cell b8
      obtain ⟨c9, f9⟩ := box_cell b9
      have hz0 : (((out.length : Int) + 1) == 0) = false := by simp; omega
      have HROUND := Lib.hid hround
      have HREF := Lib.hid hrefuse
      have HFAIL := Lib.hid hfail
      have HOWN := Lib.hid hown
      have HB7 := Lib.hid b7
      have HB8 := Lib.hid b8
      have HB9 := Lib.hid b9
      have HN8 := Lib.hid n8
      have HSCQ := Lib.hid hscq
      have HBX := Lib.hid hBX
      have hw1 : IntKind.i64.wrap ((i : Int) + (d : Int)) = (i : Int) + (d : Int) := IntWalk.i64_in _ (by omega)
      have hw2 : IntKind.i64.wrap (((i : Int) + (d : Int)).tdiv ((out.length : Int) + 1)) = (q : Int) := by rw [IntWalk.i64_quo _ _ (by omega), hqi]
      have hw3 : IntKind.i64.wrap ((n' : Int) + (q : Int)) = (n' : Int) + (q : Int) := IntWalk.i64_in _ (by omega)
      clear hround hrefuse hfail hob hscq hq hr hins b2 b3 b7 b8 b9 hown hol hgood hBX n8
      gi_wp2
      refine wpIn_mono (Q := fun e a2 w2 => e = Exit.normal ∧ a2 = { tmps := #[u0, u1, .pointer (some ⟨w.heap.size, 0, none⟩), .pointer (some ⟨w.heap.size + 1, 0, none⟩), u4, u5, u6, .pointer (some ⟨w.heap.size + 2 + 1, 0, none⟩), .pointer (some ⟨w.heap.size + 2 + 1 + 1, 0, none⟩), .pointer (some ⟨w.heap.size + 2 + 1 + 1 + 1, 0, none⟩), .int .i64 (d : Int), .bool said, .int .i64 ((out.length : Int) + 1), u13, u14, u15, u16, u17, u18, u19, u20, u21, u22, u23, u24, u25, u26, u27, u28, u29, u30, u31, u32, .slice A out.length c, .int .i64 (out.length : Int), .int .i64 ((out.length : Int) + 1), .int .i64 (n' : Int), .int .i64 (i : Int), .int .i64 (d : Int), .int .i64 ((i : Int) + (d : Int)), .int .i64 ((out.length : Int) + 1), .int .i64 (q : Int), .int .i64 ((n' : Int) + (q : Int)), u43, u44, u45, u46, u47, u48, u49, u50, u51, u52, u53, u54, u55, u56, u57, u58, u59, u60, u61, u62, u63], defers := [] } ∧ w2 = (X.setCell ⟨w.heap.size + 2 + 1 + 1, 0, none⟩ (.int .i64 ((n' : Int) + (q : Int)))).drew) ?_ ?_
      · gi_region_with_o (fail)
        all_goals exact ⟨rfl, rfl, rfl⟩
      rintro _ _ _ ⟨rfl, rfl, rfl⟩
      have hX1 : Free (fun j => j = w.heap.size + 2 + 1 + 1) X ((X.setCell ⟨w.heap.size + 2 + 1 + 1, 0, none⟩ (.int .i64 ((n' : Int) + (q : Int)))).drew) := Free.store X (w.heap.size + 2 + 1 + 1) (.int .i64 ((n' : Int) + (q : Int)))
      have hb81 : ((X.setCell ⟨w.heap.size + 2 + 1 + 1, 0, none⟩ (.int .i64 ((n' : Int) + (q : Int)))).drew).heap[w.heap.size + 2 + 1 + 1]? = some (.cells #[.int .i64 ((n' : Int) + (q : Int))] 2 (0, 0)) := heap_set1 (W := X) HB8.out
      have hown1 : ((X.setCell ⟨w.heap.size + 2 + 1 + 1, 0, none⟩ (.int .i64 ((n' : Int) + (q : Int)))).drew).ownsRow w.heap.size 21 1 (.slice A out.length c) out.length (cn out) := own_of_heap HOWN.out (fun j hj => heap_set_ne (W := X) (HN8.out j hj))
      have hc21 : ((X.setCell ⟨w.heap.size + 2 + 1 + 1, 0, none⟩ (.int .i64 ((n' : Int) + (q : Int)))).drew).cell? ⟨w.heap.size, 0, none⟩ = some (.slice none 0 0) := (cell_set_ne (W := X) (B := w.heap.size) (B' := w.heap.size + 2 + 1 + 1) (o := 0) (o' := 0) (v := .int .i64 ((n' : Int) + (q : Int))) (by omega)).trans c2
      have hf21 : ((X.setCell ⟨w.heap.size + 2 + 1 + 1, 0, none⟩ (.int .i64 ((n' : Int) + (q : Int)))).drew).frozen? ⟨w.heap.size, 0, none⟩ = false := (frozen_set_ne (W := X) (B := w.heap.size) (B' := w.heap.size + 2 + 1 + 1) (o := 0) (o' := 0) (v := .int .i64 ((n' : Int) + (q : Int))) (by omega)).trans f2
      have hc31 : ((X.setCell ⟨w.heap.size + 2 + 1 + 1, 0, none⟩ (.int .i64 ((n' : Int) + (q : Int)))).drew).cell? ⟨w.heap.size + 1, 0, none⟩ = some (.int .i64 0) := (cell_set_ne (W := X) (B := w.heap.size + 1) (B' := w.heap.size + 2 + 1 + 1) (o := 0) (o' := 0) (v := .int .i64 ((n' : Int) + (q : Int))) (by omega)).trans c3
      have hf31 : ((X.setCell ⟨w.heap.size + 2 + 1 + 1, 0, none⟩ (.int .i64 ((n' : Int) + (q : Int)))).drew).frozen? ⟨w.heap.size + 1, 0, none⟩ = false := (frozen_set_ne (W := X) (B := w.heap.size + 1) (B' := w.heap.size + 2 + 1 + 1) (o := 0) (o' := 0) (v := .int .i64 ((n' : Int) + (q : Int))) (by omega)).trans f3
      have hc71 : ((X.setCell ⟨w.heap.size + 2 + 1 + 1, 0, none⟩ (.int .i64 ((n' : Int) + (q : Int)))).drew).cell? ⟨w.heap.size + 2 + 1, 0, none⟩ = some (.slice A out.length c) := (cell_set_ne (W := X) (B := w.heap.size + 2 + 1) (B' := w.heap.size + 2 + 1 + 1) (o := 0) (o' := 0) (v := .int .i64 ((n' : Int) + (q : Int))) (by omega)).trans c7
      have hc91 : ((X.setCell ⟨w.heap.size + 2 + 1 + 1, 0, none⟩ (.int .i64 ((n' : Int) + (q : Int)))).drew).cell? ⟨w.heap.size + 2 + 1 + 1 + 1, 0, none⟩ = some (.int .i64 (i : Int)) := (cell_set_ne (W := X) (B := w.heap.size + 2 + 1 + 1 + 1) (B' := w.heap.size + 2 + 1 + 1) (o := 0) (o' := 0) (v := .int .i64 ((n' : Int) + (q : Int))) (by omega)).trans c9
      have hc81 := (box_cell hb81).1
      have hB71 : ((X.setCell ⟨w.heap.size + 2 + 1 + 1, 0, none⟩ (.int .i64 ((n' : Int) + (q : Int)))).drew).heap[w.heap.size + 2 + 1]? = some (.cells #[.slice A out.length c] 22 (0, 0)) := (heap_set_ne (W := X) (B := w.heap.size + 2 + 1) (B' := w.heap.size + 2 + 1 + 1) (o := 0) (v := .int .i64 ((n' : Int) + (q : Int))) (by omega)).trans HB7.out
      have hB91 : ((X.setCell ⟨w.heap.size + 2 + 1 + 1, 0, none⟩ (.int .i64 ((n' : Int) + (q : Int)))).drew).heap[w.heap.size + 2 + 1 + 1 + 1]? = some (.cells #[.int .i64 (i : Int)] 2 (0, 0)) := (heap_set_ne (W := X) (B := w.heap.size + 2 + 1 + 1 + 1) (B' := w.heap.size + 2 + 1 + 1) (o := 0) (v := .int .i64 ((n' : Int) + (q : Int))) (by omega)).trans HB9.out
      have hs1 : X.heap.size ≤ ((X.setCell ⟨w.heap.size + 2 + 1 + 1, 0, none⟩ (.int .i64 ((n' : Int) + (q : Int)))).drew).heap.size := hX1.2.2.2.1
      have hBX1 : Below w.heap.size w ((X.setCell ⟨w.heap.size + 2 + 1 + 1, 0, none⟩ (.int .i64 ((n' : Int) + (q : Int)))).drew) := HBX.out.trans (hX1.below HBX.out.size (fun j hj e => by omega))
      change X.cell? _ = _ at c2
      clear c2 f2 c3 f3 c7 f7 c8 f8 c9 f9
      generalize (X.setCell ⟨w.heap.size + 2 + 1 + 1, 0, none⟩ (.int .i64 ((n' : Int) + (q : Int)))).drew = X1 at hX1 hb81 hown1 hc21 hf21 hc31 hf31 hc71 hc91 hc81 hB71 hB91 hs1 hBX1 ⊢
      have HX1 := Lib.hid hX1
      have HB81 := Lib.hid hb81
      have HOWN1 := Lib.hid hown1
      have HB71 := Lib.hid hB71
      have HB91 := Lib.hid hB91
      have HBX1 := Lib.hid hBX1
      clear hX1 hb81 hown1 hB71 hB91 hBX1
      have hrefine : ∀ (K : Prop), (insL (nat8 bs.data.toList) 128 0 (pre ++ [(d, said)]) = none → K) → (said && sca (n' + q)) = false → K := fun K h1 h2 => h1 (HFAIL.out h2)
      have HRR := Lib.hid hrefine
      clear hrefine
      cases said with
      | false =>
        gi_wp2
        refine ⟨trivial, ?_⟩
        gi_wp2
        exact HREF.out X1 (HFAIL.out rfl) HX1.out
      | true =>
        cases hsc : sca (n' + q) with
        | false =>
          have HSC := Lib.hid hsc
          have hsN := HSCQ.out.trans hsc
          have HSN := Lib.hid hsN
          clear hsN hsc
          gi_wp2_with (first
            | (refine ⟨trivial, ?_⟩; gi_at_call 32; refine (CallsIn.inRound lp (callsIn_wide.2 (scalar_no _ HSN.out))).mono ?_; rintro e X2 ⟨rfl, rfl⟩)
            | fail)
          exact HREF.out X1 (HFAIL.out (by rw [HSC.out]; rfl)) HX1.out
        | true =>
          have HSC := Lib.hid hsc
          have hsN := HSCQ.out.trans hsc
          have HSN := Lib.hid hsN
          have hnb : n' + q ≤ 1114111 := by unfold sca at hsc; simp at hsc; exact hsc.1
          have hnb2 : (n' : Int) + (q : Int) ≤ 1114111 := by omega
          have hnb3 : 0 ≤ (n' : Int) + (q : Int) := by omega
          clear hsN hsc
          have hi32 : IntKind.i32.wrap ((n' : Int) + (q : Int)) = (n' : Int) + (q : Int) := IntWalk.i32_in _ (by omega)
          have hIns := Insert_any w.heap.size (.slice A out.length c) out r (n' + q) X1.heap.size (X1.alloc (.cells #[.int .i32 ((n' : Int) + (q : Int))] 21)) (HOWN1.out.alloc _) (by omega) hrl (by simp; have := HBX1.out.size; omega) (by rw [hnq]; exact World.alloc_heap_new X1 _) (fun j hj e => by have := (HOWN1.out.lt j hj).2; omega)
          have HINS := Lib.hid hIns
          clear hIns
          gi_wp2_with (first
            | (refine ⟨trivial, ?_⟩; gi_at_call 32; refine (CallsIn.inRound lp (callsIn_wide.2 (scalar_yes _ HSN.out))).mono ?_; rintro e X2 ⟨rfl, rfl⟩)
            | (refine ⟨trivial, ?_⟩; gi_at_call 33; refine (CallsIn.inRound lp (callsIn_wide.2 HINS.out)).mono ?_; rintro e X2 ⟨v2, rfl, hown2, hgr2⟩; have HR2 := Lib.hid (HROUND.out X1 X2 v2 HSC.out HX1.out (by rw [hnq]; exact HB81.out) hown2 hgr2.from_alloc); have b72 := (hgr2.from_alloc.1.block _ (Array.getElem?_eq_some_iff.1 HB71.out).1 (fun e => own_ne HOWN1.out HB71.out (by decide) _ e.symm rfl)).trans HB71.out; have b92 := (hgr2.from_alloc.1.block _ (Array.getElem?_eq_some_iff.1 HB91.out).1 (fun e => own_ne HOWN1.out HB91.out (by decide) _ e.symm rfl)).trans HB91.out; obtain ⟨A2, m2, rfl⟩ := own_slice hown2; obtain ⟨c72, f72⟩ := box_cell b72; obtain ⟨c92, f92⟩ := box_cell b92; clear hown2 hgr2 b72 b92)
            | fail)
          exact HR2.out
    case done =>
      rintro H xs X hH rfl ⟨out, n', i, v, hins, b2, b3, b7, b8, b9, hown, hob, hBX, hil, hnl, hol⟩ hD
      obtain ⟨c7, f7⟩ := box_cell b7
      obtain ⟨c2, f2⟩ := box_cell b2
      obtain ⟨c3, f3⟩ := box_cell b3
      have m2 := own_ne hown b2 (by decide)
      have m3 := own_ne hown b3 (by decide)
      obtain ⟨A, c, rfl⟩ := own_slice hown
      have hdec : decT s.data.toList (some out) := ⟨_, _, _, HPARTS.out, by unfold decD; rw [hins]; rfl⟩
      have HDEC := Lib.hid hdec
      have HB2 := Lib.hid b2
      have HB3 := Lib.hid b3
      have HOWN := Lib.hid hown
      have HM2 := Lib.hid m2
      have HM3 := Lib.hid m3
      have HBX := Lib.hid hBX
      clear b2 b3 b7 b8 b9 hins hob hil hnl hol hown hdec m2 m3 hBX
      gi_wp2
      have e2 : ((X.setCell ⟨w.heap.size, 0, none⟩ (.slice A out.length c)).setCell ⟨w.heap.size + 1, 0, none⟩ (.int .i64 0)).heap[w.heap.size]? = some (.cells #[.slice A out.length c] 22 (0, 0)) := (heap_set_ne (by omega)).trans (heap_set1 HB2.out)
      have e3 : ((X.setCell ⟨w.heap.size, 0, none⟩ (.slice A out.length c)).setCell ⟨w.heap.size + 1, 0, none⟩ (.int .i64 0)).heap[w.heap.size + 1]? = some (.cells #[.int .i64 0] 24 (0, 0)) := heap_set1 ((heap_set_ne (by omega)).trans HB3.out)
      have eD : ((X.setCell ⟨w.heap.size, 0, none⟩ (.slice A out.length c)).setCell ⟨w.heap.size + 1, 0, none⟩ (.int .i64 0)).heap[WL.heap.size]? = some (.deferred (some [])) := (heap_set_ne (by omega)).trans ((heap_set_ne (by omega)).trans hD)
      refine ⟨by simp, .inl ⟨_, _, rfl, run_takeDeferred eD, ?_⟩⟩
      refine ⟨_, results_cell2 ((World.putObj_heap_other (by omega)).trans e2) ((World.putObj_heap_other (by omega)).trans e3), .inl ⟨out, _, HDEC.out, rfl, ?_, ?_⟩⟩
      · exact own_of_heap HOWN.out (fun j hj => by
          have hjD : j ≠ WL.heap.size := fun e => by
            subst e
            have := HOWN.out.2
            rcases this with ⟨hv, _⟩ | ⟨g, cap, cur, hv, _, hg, _⟩
            · rw [hv] at hj; cases hj
            · rw [hv] at hj; injection hj with hj; subst hj; rw [hD] at hg; cases hg
          rw [World.putObj_heap_other hjD, heap_set_ne (HM3.out j hj), heap_set_ne (HM2.out j hj)])
      · exact ((HBX.out.setCell (p := ⟨w.heap.size, 0, none⟩) (Nat.le_refl _) _).setCell (p := ⟨w.heap.size + 1, 0, none⟩) (Nat.le_succ _) _).trans (belowK_b (w := w) (Nat.le_refl _) _ _ _ _ (by omega) eD rfl rfl)
    case stop =>
      rintro pre X hpre ⟨hins, b2, b3, hBX⟩ hD
      have hdec : decT s.data.toList none := ⟨_, _, _, HPARTS.out, by unfold decD; rw [insL_none_prefix hins hpre]; rfl⟩
      gi_wp2
      refine ⟨by simp, .inl ⟨_, _, rfl, run_takeDeferred hD, ?_⟩⟩
      exact ⟨_, results_cell2 ((World.putObj_heap_other (by omega)).trans b2) ((World.putObj_heap_other (by omega)).trans b3), .inr ⟨hdec, rfl, hBX.trans (belowK_b (w := w) (Nat.le_refl _) _ _ _ _ (by omega) hD rfl rfl)⟩⟩

theorem Decode_any (s : ByteArray) (w : World) (hs : s.size ≤ 10000) : Calls Try.prog 11 #[.string s] w (Decoded s w) := callsIn_wide.1 (Decode_in 5 (by omega) s w hs)
theorem Decode_great (s : ByteArray) (w : World) (hs : 10000 < s.size) (hs2 : s.size ≤ 1000000) : Calls Try.prog 11 #[.string s] w fun e w' => e = .returned (.tuple #[.slice none 0 0, .int .i64 41]) ∧ Below w.heap.size w w' := by
  refine (callsIn_wide (n := 4)).1 ?_
  refine callsIn_of_wp_marks Try.func11 rfl trivial ?_ rfl
  simp only [Try.ntmps11, List.size_toArray, List.length_cons, List.length_nil, Nat.reduceAdd, Nat.reduceSub, Array.replicate_succ, Array.replicate_zero, List.push_toArray, List.append_toArray, List.nil_append, List.cons_append]
  have hs3 : (10000 : Int) < (s.size : Int) := by omega
  gi_wp2
  exact ⟨_, results_cell2 (alloc2_0 w _ _) (alloc2_1 w _ _), rfl, ((Below.refl w.heap.size w).alloc (Nat.le_refl _) _).alloc (by simp) _⟩
end Go.Proofs.Ytcdjjodiiaahfaa
