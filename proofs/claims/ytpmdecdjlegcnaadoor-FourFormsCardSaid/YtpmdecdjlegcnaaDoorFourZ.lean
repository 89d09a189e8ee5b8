/-
  FourForms: its parts as mathematics.
-/
import Derived.Test.YtpmdecdjlegcnaaDoorFourY
import Derived.Test.YtpmdecdjlegcnaaDoorFourV
namespace Go.Proofs.YtpmdecdjlegcnaaDoor.Fou
open Go.RowKit Go.Shelf Go.Sort

def fpre (x : Nat) (H : Nat → Nat) (j : Nat) : List (List UInt8) := (List.range j).map fun i => wrt (H i) (byt x i)
theorem fpre_succ (x : Nat) (H : Nat → Nat) (j : Nat) : fpre x H (j + 1) = fpre x H j ++ [wrt (H j) (byt x j)] := by simp [fpre, List.range_succ]
theorem fpre_len (x : Nat) (H : Nat → Nat) (j : Nat) : (fpre x H j).length = j := by simp [fpre]
theorem up_no (n : Nat) : (46 : UInt8) ∉ Lib.toUpperA (digs 16 n) := by
  have h16 : ∀ d : Fin 16, Lib.upperB (dgB d.1) ≠ 46 := by decide
  intro h
  obtain ⟨c, hc, e⟩ := List.mem_map.1 h
  obtain ⟨d, hd, rfl⟩ := digs_mem (by decide) n c hc
  exact h16 ⟨d, hd⟩ e
theorem wrt_no (h n : Nat) : (46 : UInt8) ∉ wrt h n := by
  have h0 : ∀ k, (46 : UInt8) ∉ List.replicate k (48 : UInt8) := fun k e => by
    have := List.eq_of_mem_replicate e
    exact absurd this (by decide)
  unfold wrt
  split
  · exact digs_no (by decide) (by decide) n
  · split
    · intro e
      simp only [List.mem_cons, List.mem_append] at e
      rcases e with e | e | e
      · exact absurd e (by decide)
      · exact h0 _ e
      · exact digs_no (by decide) (by decide) n e
    · intro e
      simp only [List.mem_cons, List.mem_append] at e
      rcases e with e | e | e | e
      · exact absurd e (by decide)
      · exact absurd e (by decide)
      · exact h0 _ e
      · exact up_no n e
theorem wrt_ne (h n : Nat) : wrt h n ≠ [] := fun e => by
  have := wrt_num h n
  rw [e] at this
  cases this
theorem wrt_len {h n : Nat} (hn : n < 10000000000) : (wrt h n).length ≤ 30 := by
  have h10 := digs_len (b := 10) (by decide) 11 n (Nat.lt_of_lt_of_le hn (by decide))
  have h8 := digs_len (b := 8) (by decide) 11 n (Nat.lt_of_lt_of_le hn (by decide))
  have h16 := digs_len (b := 16) (by decide) 11 n (Nat.lt_of_lt_of_le hn (by decide))
  unfold wrt
  split
  · omega
  · split
    · rw [List.length_cons, List.length_append, List.length_replicate]
      omega
    · rw [List.length_cons, List.length_cons, List.length_append, List.length_replicate, Lib.toUpperA, List.length_map]
      omega
def fall (x : Nat) (H : Nat → Nat) (m : Nat) : List (List UInt8) := fpre x H m ++ [wrt (H m) (x % 256 ^ (4 - m))]
theorem fall_len (x : Nat) (H : Nat → Nat) (m : Nat) : (fall x H m).length = m + 1 := by simp [fall, fpre_len]
theorem fall_no (x : Nat) (H : Nat → Nat) (m : Nat) : ∀ p ∈ fall x H m, (46 : UInt8) ∉ p := by
  intro p hp
  rcases List.mem_append.1 hp with hp | hp
  · obtain ⟨i, _, rfl⟩ := List.mem_map.1 hp
    exact wrt_no _ _
  · rw [List.mem_singleton.1 hp]
    exact wrt_no _ _
theorem fall_last (x : Nat) (H : Nat → Nat) (m : Nat) : (fall x H m).getLast? ≠ some [] := by
  simp [fall]
  exact wrt_ne _ _
theorem rest_lt {x : Nat} (hx : x < 4294967296) (m : Nat) : x % 256 ^ (4 - m) < 4294967296 := Nat.lt_of_le_of_lt (Nat.mod_le _ _) hx
theorem num_b (h x j : Nat) : num (wrt h (byt x j)) = some (byt x j) := by
  rw [wrt_num, cap_of (by have := byt_lt x j; omega)]
theorem fall_ans {x : Nat} (hx : x < 4294967296) (H : Nat → Nat) {m : Nat} (hm : m < 4) : ans (Lib.join (fall x H m) [46]) = some x := by
  rw [ans_join _ (fun e => by have := fall_len x H m; rw [e] at this; cases this) (fall_no x H m) (fall_last x H m), ← rgo_prs (fall_len x H m) (by omega) (by omega)]
  have hc : m = 0 ∨ m = 1 ∨ m = 2 ∨ m = 3 := by omega
  have hr : ∀ h k, num (wrt h (x % 256 ^ k)) = some (x % 256 ^ k) := fun h k => by
    rw [wrt_num, cap_of]
    have := Nat.mod_le x (256 ^ k)
    omega
  have hb := fun h j => num_b h x j
  have hbl := fun j => byt_lt x j
  rcases hc with rfl | rfl | rfl | rfl
  · simp [fall, fpre, rgo]
    have h := hr (H 0) 4
    simp at h
    rw [h]
    simp
    omega
  · simp [fall, fpre, rgo, hb, List.range_succ, byt_lt]
    have h := hr (H 1) 3
    simp at h
    rw [h]
    unfold byt
    simp
    omega
  · simp [fall, fpre, rgo, hb, List.range_succ, byt_lt]
    have h := hr (H 2) 2
    simp at h
    rw [h]
    unfold byt
    simp
    omega
  · simp [fall, fpre, rgo, hb, List.range_succ, byt_lt]
    have h := hr (H 3) 1
    simp at h
    rw [h]
    unfold byt
    simp
    omega
theorem fall_ends {x : Nat} (H : Nat → Nat) (m : Nat) : ends (Lib.join (fall x H m) [46]) = true := by
  have h := rpt_join (fall x H m) (fun e => by have := fall_len x H m; rw [e] at this; cases this) (fall_no x H m) (fall_last x H m)
  have hr : (fall x H m).reverse = wrt (H m) (x % 256 ^ (4 - m)) :: (fpre x H m).reverse := by simp [fall]
  rw [hr] at h
  exact ends_of h (wrt_num _ _)
theorem fall_size {x : Nat} (hx : x < 4294967296) (H : Nat → Nat) {m : Nat} (hm : m < 4) : (Lib.join (fall x H m) [46]).length ≤ 1000000 := by
  have h := join_len (fall x H m) (by
    intro q hq
    rcases List.mem_append.1 hq with hq | hq
    · obtain ⟨i, _, rfl⟩ := List.mem_map.1 hq
      exact wrt_len (by have := byt_lt x i; omega)
    · rw [List.mem_singleton.1 hq]
      exact wrt_len (by have := rest_lt hx m; omega))
  rw [fall_len] at h
  omega
theorem written_z (z g : Int) (n h : Nat) (hz : z = (n : Int)) (hg : g = (h : Int)) (hn : n < 10000000000) (hh : h < 256) (w : World) (hp : PowIs w) (hB : BruIs w) : Calls Tryd.prog 21 #[.int .u64 z, .int .u8 g] w (Texts (wrt h n) w) := by
  subst hz hg
  exact written_any n h hn hh w hp hB
theorem byt_and (x z j : Nat) (hx : x < 4294967296) (hz : z = 24 - 8 * j) : bits .and .u32 ((x : Int) / 2 ^ z) 255 = (byt x j : Int) := by
  have e : ((x : Int) / 2 ^ z) = ((x / 2 ^ z : Nat) : Int) := by simp
  rw [e, and255 _ (Nat.lt_of_le_of_lt (Nat.div_le_self _ _) hx), hz]
  rfl
theorem join_all {x m M c B : Nat} {H : Nat → Nat} {A : Option Addr} {w : World} (hx : x < 4294967296) (hm : m < 4) (hM : m + 1 = M) (hO : w.ownsRow B 9 1 (.slice A M c) M (sc ((fall x H m).map bs))) :
    Calls Tryd.prog 22 #[.slice A M c, .string ⟨#[46]⟩] w (Texts (Lib.join (fall x H m) [46]) w) := by
  have hlen : ((fall x H m).map bs).length = M := by rw [List.length_map, fall_len]; exact hM
  have hmm : ((fall x H m).map bs).map dl = fall x H m := by
    rw [List.map_map]
    conv => rhs; rw [← List.map_id (fall x H m)]
    exact List.map_congr_left fun q _ => bs_data q
  have hcap := own_cap hO
  obtain ⟨g, rfl, hg1, hg2, hg3⟩ := own_at (xs := (fall x H m).map bs) (by rw [List.nil_append]; exact hO) (by omega)
  have h := Join_any g c ((fall x H m).map bs) w (fun j y hy => by
    have hj : j < M := by rw [← hlen]; exact (List.getElem?_eq_some_iff.1 hy).1
    rw [hg2 j hj, sc, List.getElem?_map, hy]
    rfl) hg1.2 (by omega) (by omega) (by rw [hmm]; exact fall_size hx H hm)
  rw [hlen, hmm] at h
  exact h
theorem says_all {x m : Nat} {H : Nat → Nat} (hx : x < 4294967296) (hm : m < 4) (w : World) : Calls Tryd.prog 18 #[.string (bs (Lib.join (fall x H m) [46])), .int .u32 (x : Int)] w (Says true w) :=
  says_yes _ x (by rw [Lib.size_eq, bs_data]; exact fall_size hx H hm) w (by rw [show dl (bs (Lib.join (fall x H m) [46])) = _ from bs_data _]; exact fall_ans hx H hm)
theorem ends_all {x m : Nat} {H : Nat → Nat} (hx : x < 4294967296) (hm : m < 4) (w : World) : Calls Tryd.prog 13 #[.string (bs (Lib.join (fall x H m) [46]))] w (Says true w) :=
  Ends_is _ true (by rw [Lib.size_eq, bs_data]; exact fall_size hx H hm) w (by rw [show dl (bs (Lib.join (fall x H m) [46])) = _ from bs_data _]; exact fall_ends H m)
theorem rest_and {x m z : Nat} (hx : x < 4294967296) (hm : m < 4) (hz : z = 8 * (4 - m)) : bits .and .u64 (x : Int) ((2 ^ z - 1 : Nat) : Int) = ((x % 256 ^ (4 - m) : Nat) : Int) := by
  have hc : m = 0 ∨ m = 1 ∨ m = 2 ∨ m = 3 := by omega
  subst hz
  rcases hc with rfl | rfl | rfl | rfl <;> rw [bits_and_u64_nat x _ (by omega) (by decide), Nat.and_two_pow_sub_one_eq_mod]
end Go.Proofs.YtpmdecdjlegcnaaDoor.Fou
