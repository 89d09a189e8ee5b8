/-
  FourLimits: where its loop stands, what its closure answers there; strings.IndexByte; a part with another byte.
-/
import Derived.Test.YtpmdecdjlegcnaaDoorFourU
import Derived.Test.YtpmdecdjlegcnaaDoorFourI
import Derived.Test.YtpmdecdjlegcnaaDoorFourT
import Derived.Test.YtpmdecdjlegcnaaDoorFourRE
import Derived.Shelf.Small.Strs
import Derived.Deep.RegionLaw
namespace Go.Proofs.YtpmdecdjlegcnaaDoor.Fou
open Go.RowKit Go.Shelf

def ixLaid_ren : Ren := ⟨fun | 137 => 25 | 217 => 43 | 266 => 72 | n => n, fun | 9 => 9 | 5 => 5 | 3 => 3 | n => n, fun n => n⟩
theorem ixLaid : Lays.n137 Tryd.prog ixLaid_ren := {
  mixed := by kernel_rfl
  f137 := by kernel_rfl
  f217 := by kernel_rfl
  f266 := by kernel_rfl
  t3 := Tryd.underlying3
  a3 := Tryd.isAgg3
  z3 := Tryd.sizeOf3
  v3 := Tryd.zeroValue3
  t5 := Tryd.underlying5
  a5 := Tryd.isAgg5
  z5 := Tryd.sizeOf5
  v5 := Tryd.zeroValue5
  t9 := Tryd.underlying9
  a9 := Tryd.isAgg9
  z9 := Tryd.sizeOf9
  v9 := Tryd.zeroValue9
}
theorem Itoa_z (z : Int) (n : Nat) (h : z = (n : Int)) (hn : n < 256) (w : World) (hp : PowIs w) : Calls Tryd.prog 20 #[.int .i64 z] w (Texts (digs 10 n) w) := by
  subst h
  exact Itoa_digs n (by omega) w hp
/-- where the loop that makes the parts stands -/
def LSt (x k h j : Nat) (W : World) : Prop := ∃ (A : Option Addr) (c : Nat), Boxed W (h + 1) 33 (.slice A j c) ∧ Boxed W h 3 (.int .i64 (k : Int)) ∧ W.ownsRow (h + 2) 9 1 (.slice A j c) j (sc ((lows x j).map bs)) ∧ h + 2 ≤ W.heap.size
theorem lo_and (x j y : Nat) (hx : x < 4294967296) (hy : y = 8 * j) : IntKind.i64.wrap (bits .and .u32 ((x : Int) / 2 ^ y) 255) = (lo x j : Int) := by
  have e : ((x : Int) / 2 ^ y) = ((x / 256 ^ j : Nat) : Int) := by
    rw [show (256 : Nat) = 2 ^ 8 from rfl, ← Nat.pow_mul, ← hy]
    simp
  rw [e, and255 _ (Nat.lt_of_le_of_lt (Nat.div_le_self _ _) hx)]
  exact IntWalk.i64_in _ (by omega)
theorem own_none' (h : Nat) (W : World) : W.ownsRow (h + 2) 9 1 (.slice none 0 0) 0 (sc []) := World.ownsRow_nil _ _ _ _
theorem hidBelow {w w' : World} (h : Below w.heap.size w w') : Below w.heap.size w w'.drew := h.drew
section
variable {ops : Array Oper} {o : Oper} {a : Act} {K : Act → World → Prop} {Q : Exit → Act → World → Prop} {E : Prop}
/-- an append of a region that draws its order, of one text just laid, onto a row of the call's own -/
theorem step_appS (B : Nat) (W : World) (hgd : o.guard = none) (s x : Operand) (ho : o.op = .call { callee := .builtin .append, args := #[s, x], argTypes := #[33, 33] })
    (v : Value) (n : Nat) (xs : List ByteArray) (hs : a.eval s = v) (hown : W.ownsRow B 9 1 v n (sc xs)) (hB : B ≤ W.heap.size)
    (A : Option Addr) (c : Nat) (y : ByteArray) (hx : a.eval x = .slice A 1 c) (hr : Row W W.heap.size A (sc [y])) (q : Nat) (hq : n + 1 = q) (hnm : q ≤ 1000)
    (h : ∀ A' c' w', w'.ownsRow B 9 1 (.slice A' q c') q (sc (xs ++ [y])) → Below B W w' → K (a.put o.dst (.slice A' q c')) w') :
    if Region.wanted o (yielded ops a.tmps) = true then Oper.wp Tryd.prog o a W K Q else E := by
  subst hq
  obtain ⟨i0, hi, hz0, hz1, hz2⟩ := info_split info_tx
  refine step_append_row W hgd s x 33 ho B 9 i0 (.string ByteArray.empty) 1 16 Tryd.underlying33 hi hz0 hz1 hz2 rfl (Nat.zero_lt_succ 0) v n (sc xs) hs hown W.heap.size A 1 c (sc [y]) hx rfl hr (one_sc _) (by unfold maxLen; omega) (by omega) hB ?_
  intro v' w' hO hg
  obtain ⟨A', c', rfl, _, _⟩ := own_form hO
  exact h A' c' w' (by rw [show sc (xs ++ [y]) = sc xs ++ sc [y] from List.map_append]; exact hO) ((Below.refl B W).grown hg hB (fun j e => (hown.lt j e).1))
end

theorem IndexByte_any (s : ByteArray) (c : Nat) (w : World) : Calls Tryd.prog 25 #[.string s, .int .u8 (c : Int)] w fun e w' => e = .returned (.int .i64 (Lib.indexByte (dl s) (UInt8.ofNat c))) ∧ w' = w :=
  (Any.strings_IndexByte ixLaid s (c : Int) w).mono fun _ _ ⟨h1, h2⟩ => ⟨by rw [h1]; rfl, h2⟩
def alphas : ByteArray := ⟨#[48, 49, 50, 51, 52, 53, 54, 55, 56, 57, 97, 98, 99, 100, 101, 102, 65, 66, 67, 68, 69, 70, 120, 88, 46]⟩
theorem other_fin : ∀ c : Fin 256, Lib.indexByte (dl alphas) (UInt8.ofNat c.1) < 0 → num [49, UInt8.ofNat c.1] = none ∧ (46 : UInt8) ≠ UInt8.ofNat c.1 := by decide +kernel
theorem other_byte {c : Nat} (hc : c < 256) (h : Lib.indexByte (dl alphas) (UInt8.ofNat c) < 0) : num [49, UInt8.ofNat c] = none ∧ (46 : UInt8) ∉ [49, UInt8.ofNat c] := by
  obtain ⟨h1, h2⟩ := other_fin ⟨c, hc⟩ h
  exact ⟨h1, by simp [h2]⟩
theorem nines : num (dl ⟨#[57, 57, 57, 57, 57, 57, 57, 57, 57, 57, 57, 57, 57, 57, 57, 57, 57, 57, 57, 57, 57, 57, 57]⟩) = some 4294967296 ∧ (46 : UInt8) ∉ dl ⟨#[57, 57, 57, 57, 57, 57, 57, 57, 57, 57, 57, 57, 57, 57, 57, 57, 57, 57, 57, 57, 57, 57, 57]⟩ ∧ (dl ⟨#[57, 57, 57, 57, 57, 57, 57, 57, 57, 57, 57, 57, 57, 57, 57, 57, 57, 57, 57, 57, 57, 57, 57]⟩).length = 23 := by decide +kernel
theorem room_le (n k : Nat) (h1 : 1 ≤ n) (h4 : n ≤ 4) : 256 ≤ roomOf n k ∧ roomOf n k ≤ 4294967296 := by
  unfold roomOf
  split
  · have : n = 1 ∨ n = 2 ∨ n = 3 ∨ n = 4 := by omega
    rcases this with rfl | rfl | rfl | rfl <;> decide
  · decide
theorem LSt_put {x k h j : Nat} {wr w' : World} {A A' : Option Addr} {c c' : Nat} (hb1 : Boxed wr (h + 1) 33 (.slice A j c)) (hb0 : Boxed wr h 3 (.int .i64 (k : Int))) (hg : Below (h + 2) wr w')
    (hO' : w'.ownsRow (h + 2) 9 1 (.slice A' (j + 1) c') (j + 1) (sc ((lows x j).map bs ++ [bs (digs 10 (lo x j))]))) (hsz : h + 2 ≤ w'.heap.size) : LSt x k h (j + 1) (w'.setCell ⟨h + 1, 0, none⟩ (.slice A' (j + 1) c')) := by
  have b1 : Boxed w' (h + 1) 33 (.slice A j c) := (hg.block (h + 1) (by omega)).trans hb1
  have b0 : Boxed w' h 3 (.int .i64 (k : Int)) := (hg.block h (by omega)).trans hb0
  refine ⟨A', c', b1.set _, b0.kept (grownBy_setCell' w' (h + 1) _) (by simp), ?_, by simpa [World.setCell] using hsz⟩
  rw [lows_succ, List.map_append]
  exact hO'.kept (grownBy_setCell' w' (h + 1) _) (.inr (fun e => by have := (hO'.lt (h + 1) e).1; omega))
theorem with_at {x k h n : Nat} {W w' : World} (hL : LSt x k h n W) (hB : Below W.heap.size W w') (hk : k < n) (h4 : n ≤ 4) (p : ByteArray) (hp : p.size ≤ 30) :
    Calls Tryd.prog 23 #[.string p, .pointer (some ⟨h + 1, 0, none⟩), .pointer (some ⟨h, 0, none⟩)] w' (Texts (Lib.join ((lows x n).set k (dl p)) [46]) w') := by
  obtain ⟨A, c, hb1, hb0, hO, hsz⟩ := hL
  have b1 : Boxed w' (h + 1) 33 (.slice A n c) := (hB.block (h + 1) hb1.lt).trans hb1
  have b0 : Boxed w' h 3 (.int .i64 (k : Int)) := (hB.block h hb0.lt).trans hb0
  have hm : ((lows x n).map bs).map dl = lows x n := by
    rw [List.map_map]
    conv => rhs; rw [← List.map_id (lows x n)]
    exact List.map_congr_left fun q _ => bs_data q
  have hlen : (dl p).length ≤ 30 := by rw [← Lib.size_eq]; exact hp
  have h := with_any p h (h + 1) n k c A ((lows x n).map bs) w' (by rw [List.length_map, lows_len]) hk h4 b1.cell b0.cell b1.lt b0.lt (((own_row hO).below hB).mono hB.size) (by rw [hm]; exact set_len h4 hlen)
  rw [hm] at h
  exact h
theorem digs_small {u : Nat} (h : u < 10000000000) : (bs (digs 10 u)).size ≤ 30 := by
  rw [Lib.size_eq, bs_data]
  have := digs_len (b := 10) (by decide) 9 u (Nat.lt_of_lt_of_le h (by decide))
  omega
theorem with_size {x k n : Nat} (p : ByteArray) (h4 : n ≤ 4) (hp : p.size ≤ 30) : (bs (Lib.join ((lows x n).set k (dl p)) [46])).size ≤ 1000000 := by
  rw [Lib.size_eq, bs_data]
  exact set_len h4 (by rw [← Lib.size_eq]; exact hp)
theorem none_with {x k n : Nat} (p : ByteArray) (w : World) (h4 : n ≤ 4) (hp : p.size ≤ 30) (h : ans (Lib.join ((lows x n).set k (dl p)) [46]) = none) :
    Calls Tryd.prog 19 #[.string (bs (Lib.join ((lows x n).set k (dl p)) [46]))] w (Says true w) :=
  none_yes _ (with_size p h4 hp) w (by rw [show dl (bs (Lib.join ((lows x n).set k (dl p)) [46])) = _ from bs_data _]; exact h)
theorem lim_none {x k n u : Nat} (h1 : 1 ≤ n) (h4 : n ≤ 4) (hk : k < n) (hu : roomOf n k ≤ u) : ans (Lib.join ((lows x n).set k (dl (bs (digs 10 u)))) [46]) = none := by
  rw [show dl (bs (digs 10 u)) = digs 10 u from bs_data _]
  exact set_none h1 h4 hk (digs_no (by decide) (by decide) u) (digs_num u) (by unfold cap; have := (room_le n k h1 h4).2; omega)
theorem parse_with {x k n q : Nat} (w : World) (h1 : 1 ≤ n) (h4 : n ≤ 4) (hk : k < n) (hq : roomOf n k = q + 1) :
    Calls Tryd.prog 11 #[.string (bs (Lib.join ((lows x n).set k (dl (bs (digs 10 q)))) [46]))] w (fun e w' => ∃ y : Int, e = .returned (.tuple #[.int .u32 y, .int .i64 0]) ∧ Below w.heap.size w w') := by
  have hle := (room_le n k h1 h4).2
  have hs := with_size (x := x) (k := k) (bs (digs 10 q)) h4 (digs_small (by omega))
  refine (Parse_any _ hs w).mono fun e w' ⟨h, hB⟩ => ?_
  rw [show dl (bs (Lib.join ((lows x n).set k (dl (bs (digs 10 q)))) [46])) = _ from bs_data _, show dl (bs (digs 10 q)) = digs 10 q from bs_data _] at h
  have hsome := set_some (x := x) h1 h4 hk (digs_no (by decide) (by decide) q) (digs_num q) (by unfold cap; omega)
  obtain ⟨y, hy⟩ := Option.isSome_iff_exists.1 hsome
  rw [hy] at h
  exact ⟨y, h, hB⟩
theorem empty_none {x k n : Nat} (h1 : 1 ≤ n) (h4 : n ≤ 4) (hk : k < n) (h : n = 1 ∨ k + 1 < n) : ans (Lib.join ((lows x n).set k (dl ByteArray.empty)) [46]) = none := by
  rcases h with rfl | h
  · obtain rfl : k = 0 := by omega
    rfl
  · exact set_bad h1 h4 hk (show (46 : UInt8) ∉ ([] : List UInt8) by simp) (.inr h) rfl
theorem nines_none {x k n : Nat} (h1 : 1 ≤ n) (h4 : n ≤ 4) (hk : k < n) : ans (Lib.join ((lows x n).set k (dl ⟨#[57, 57, 57, 57, 57, 57, 57, 57, 57, 57, 57, 57, 57, 57, 57, 57, 57, 57, 57, 57, 57, 57, 57]⟩)) [46]) = none :=
  set_none h1 h4 hk nines.2.1 nines.1 (room_le n k h1 h4).2
theorem one_byte (c : Nat) : dl (⟨#[49]⟩ ++ strOfNums [(c : Int)]) = [49, UInt8.ofNat c] := by
  rw [app_dl, str_one, Int.toNat_natCast]
  rfl
theorem one_size (c : Nat) : ((⟨#[49]⟩ : ByteArray) ++ strOfNums [(c : Int)]).size ≤ 30 := by
  rw [Lib.size_eq, show ((⟨#[49]⟩ : ByteArray) ++ strOfNums [(c : Int)]).data.toList = [49, UInt8.ofNat c] from one_byte c]
  simp
theorem byte_none {x k n c : Nat} (h1 : 1 ≤ n) (h4 : n ≤ 4) (hk : k < n) (hc : c < 256) (h : Lib.indexByte (dl alphas) (UInt8.ofNat c) < 0) : ans (Lib.join ((lows x n).set k (dl (⟨#[49]⟩ ++ strOfNums [(c : Int)]))) [46]) = none := by
  obtain ⟨h2, h3⟩ := other_byte hc h
  rw [one_byte]
  exact set_bad h1 h4 hk h3 (.inl (by simp)) h2
def onesT : List ByteArray := [⟨#[49]⟩, ⟨#[49]⟩, ⟨#[49]⟩, ⟨#[49]⟩]
theorem long_join {x n : Nat} : (((lows x n).map bs ++ onesT).map dl) = lows x n ++ [[49], [49], [49], [49]] := by
  rw [List.map_append]
  have : ((lows x n).map bs).map dl = lows x n := by
    rw [List.map_map]
    conv => rhs; rw [← List.map_id (lows x n)]
    exact List.map_congr_left fun q _ => bs_data q
  rw [this]
  rfl
theorem low_short (x n : Nat) : ∀ q ∈ lows x n, q.length ≤ 30 := by
  intro q hq
  obtain ⟨i, _, rfl⟩ := List.mem_map.1 hq
  have := digs_len (b := 10) (by decide) 2 (lo x i) (Nat.lt_of_lt_of_le (lo_lt _ _) (by decide))
  omega
theorem long_size {x n : Nat} (h4 : n ≤ 4) : (Lib.join (((lows x n).map bs ++ onesT).map dl) [46]).length ≤ 1000000 := by
  rw [long_join]
  have h := join_len (lows x n ++ [[49], [49], [49], [49]]) (by
    intro q hq
    rcases List.mem_append.1 hq with hq | hq
    · exact low_short x n q hq
    · simp at hq
      subst hq
      decide)
  rw [List.length_append, lows_len] at h
  simp at h
  omega
theorem long_none {x n : Nat} (h1 : 1 ≤ n) : ans (Lib.join (((lows x n).map bs ++ onesT).map dl) [46]) = none := by
  rw [long_join, ans_join _ (by simp) (by
    intro q hq
    rcases List.mem_append.1 hq with hq | hq
    · obtain ⟨i, _, rfl⟩ := List.mem_map.1 hq
      exact digs_no (by decide) (by decide) _
    · simp at hq
      subst hq
      decide) (by simp), prs, pgo_long _ _ _ _ (by omega) (by rw [List.length_reverse, List.length_append, lows_len]; simp; omega)]
  rfl
theorem IndexByte_z (s : ByteArray) (c : Nat) (z : Int) (hz : Lib.indexByte (dl s) (UInt8.ofNat c) = z) (w : World) : Calls Tryd.prog 25 #[.string s, .int .u8 (c : Int)] w fun e w' => e = .returned (.int .i64 z) ∧ w' = w :=
  (IndexByte_any s c w).mono fun _ _ ⟨h1, h2⟩ => ⟨by rw [h1, hz], h2⟩
theorem with_one {x k h n : Nat} {W w' : World} (hL : LSt x k h n W) (hB : Below W.heap.size W w') (hk : k < n) (h4 : n ≤ 4) (c : Nat) :
    Calls Tryd.prog 23 #[.string ((⟨#[49]⟩ : ByteArray) ++ strOfNums [(c : Int)]), .pointer (some ⟨h + 1, 0, none⟩), .pointer (some ⟨h, 0, none⟩)] (w'.alloc (.cells #[.int .u8 (c : Int)] 5)) (Texts (Lib.join ((lows x n).set k [49, UInt8.ofNat c]) [46]) (w'.alloc (.cells #[.int .u8 (c : Int)] 5))) := by
  have h := with_at hL (hB.alloc hB.size (.cells #[.int .u8 (c : Int)] 5)) hk h4 _ (one_size c)
  rw [one_byte] at h
  exact h
theorem none_one {x k n c : Nat} (h1 : 1 ≤ n) (h4 : n ≤ 4) (hk : k < n) (hc : c < 256) (h : Lib.indexByte (dl alphas) (UInt8.ofNat c) < 0) (w : World) :
    Calls Tryd.prog 19 #[.string (bs (Lib.join ((lows x n).set k [49, UInt8.ofNat c]) [46]))] w (Says true w) := by
  have h := none_with _ w h4 (one_size c) (byte_none (x := x) h1 h4 hk hc h)
  rw [one_byte] at h
  exact h
def longT (x n : Nat) : List UInt8 := Lib.join (((lows x n).map bs ++ onesT).map dl) [46]
theorem join_long {x n M c B : Nat} {A : Option Addr} {w : World} (h4 : n ≤ 4) (hM : n + 4 = M) (hO : w.ownsRow B 9 1 (.slice A M c) M (sc ([] ++ (lows x n).map bs ++ onesT))) :
    Calls Tryd.prog 22 #[.slice A M c, .string ⟨#[46]⟩] w (Texts (longT x n) w) := by
  have hlen : ((lows x n).map bs ++ onesT).length = M := by
    rw [List.length_append, List.length_map, lows_len]
    exact hM
  have hcap := own_cap hO
  rw [List.nil_append] at hO
  obtain ⟨g, rfl, hg1, hg2, hg3⟩ := own_at (xs := (lows x n).map bs ++ onesT) (by rw [List.nil_append]; exact hO) (by omega)
  have h := Join_any g c ((lows x n).map bs ++ onesT) w (fun j y hy => by
    have hj : j < M := by rw [← hlen]; exact (List.getElem?_eq_some_iff.1 hy).1
    rw [hg2 j hj, sc, List.getElem?_map, hy]
    rfl) hg1.2 (by omega) (by omega) (long_size h4)
  rw [hlen] at h
  exact h
theorem none_long {x n : Nat} (h1 : 1 ≤ n) (h4 : n ≤ 4) (w : World) : Calls Tryd.prog 19 #[.string (bs (longT x n))] w (Says true w) :=
  none_yes _ (by rw [Lib.size_eq, bs_data]; exact long_size h4) w (by rw [show dl (bs (longT x n)) = _ from bs_data _]; exact long_none h1)
theorem below_ones {m : Nat} {a b c d : World} {o : Obj} (hm : m = a.heap.size) (h0 : Below m a b) (h1 : Below m b c) (h2 : Below m (c.alloc o) d) : Below a.heap.size a d := by
  subst hm
  have h := h0.trans h1
  exact (h.alloc h.size o).trans h2
end Go.Proofs.YtpmdecdjlegcnaaDoor.Fou
