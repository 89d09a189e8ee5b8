/-
  strings.IndexRune and ContainsRune at a text of ASCII, for every rune; host's forbidden code points.
-/
import Derived.Test.YtjkfppgekepbeaaDoorHstD
import Derived.Test.YtjkfppgekepbeaaDoorPunyC
import Derived.Laws.RangeString
import Derived.WalkMore
import Derived.Deep.QuietTactic
import Derived.BigQuiet
import Derived.Laws.Runes
import Derived.Lib.IndexLaws
namespace Go.Proofs.YtjkfppgekepbeaaDoor.Hst
set_option maxRecDepth 100000
open Go.RowKit Utf Ut Pn

def Says (q : Bool) (w : World) (e : Ending) (w' : World) : Prop := e = .returned (.bool q) ∧ Below w.heap.size w w'
def Numb (i : Int) (w : World) (e : Ending) (w' : World) : Prop := e = .returned (.int .i64 i) ∧ Below w.heap.size w w'
theorem valid_sca (r : Int) : Utf8.valid r = sca r := by
  unfold Utf8.valid sca
  rw [Bool.eq_iff_iff]
  simp only [Bool.or_eq_true, Bool.and_eq_true, decide_eq_true_eq]
  omega
set_option maxHeartbeats 1000000 in
theorem ValidRune_any (r : Int) (w : World) : Calls Tryd.prog 96 #[.int .i32 r] w (fun e w' => e = .returned (.bool (sca r)) ∧ w = w') := by
  have HS : Hid (sca r = decide (0 ≤ r ∧ r ≤ 1114111 ∧ (r < 55296 ∨ 57343 < r))) := Lib.hid rfl
  by_cases h0 : 0 ≤ r
  · have d0 : decide (0 ≤ r) = true := decide_eq_true h0
    by_cases h1 : r < 55296
    · have d1 : decide (r < 55296) = true := decide_eq_true h1
      have HE : Hid (sca r = true) := Lib.hid (by rw [HS.out, decide_eq_true]; omega)
      rw [HE.out]
      clear HS HE
      go_enter Tryd.func96, Tryd.ntmps96
      go_wp2_with fail
      go_ret
      exact ⟨rfl, rfl⟩
    · have d1 : decide (r < 55296) = false := decide_eq_false h1
      by_cases h2 : 57343 < r
      · have d2 : decide (57343 < r) = true := decide_eq_true h2
        by_cases h3 : r ≤ 1114111
        · have d3 : decide (r ≤ 1114111) = true := decide_eq_true h3
          have HE : Hid (sca r = true) := Lib.hid (by rw [HS.out, decide_eq_true]; omega)
          rw [HE.out]
          clear HS HE
          go_enter Tryd.func96, Tryd.ntmps96
          go_wp2_with fail
          go_ret
          exact ⟨rfl, rfl⟩
        · have d3 : decide (r ≤ 1114111) = false := decide_eq_false h3
          have HE : Hid (sca r = false) := Lib.hid (by rw [HS.out, decide_eq_false]; omega)
          rw [HE.out]
          clear HS HE
          go_enter Tryd.func96, Tryd.ntmps96
          go_wp2_with fail
          go_ret
          exact ⟨rfl, rfl⟩
      · have d2 : decide (57343 < r) = false := decide_eq_false h2
        have HE : Hid (sca r = false) := Lib.hid (by rw [HS.out, decide_eq_false]; omega)
        rw [HE.out]
        clear HS HE
        go_enter Tryd.func96, Tryd.ntmps96
        go_wp2_with fail
        go_ret
        exact ⟨rfl, rfl⟩
  · have d0 : decide (0 ≤ r) = false := decide_eq_false h0
    have h2 : ¬ 57343 < r := by omega
    have d2 : decide (57343 < r) = false := decide_eq_false h2
    have HE : Hid (sca r = false) := Lib.hid (by rw [HS.out, decide_eq_false]; omega)
    rw [HE.out]
    clear HS HE
    go_enter Tryd.func96, Tryd.ntmps96
    go_wp2_with fail
    go_ret
    exact ⟨rfl, rfl⟩
theorem idx_none : ∀ (l : List UInt8) (c : UInt8), (∀ b ∈ l, b ≠ c) → Lib.indexByte l c = -1 := by
  intro l c h
  cases hi : Lib.indexByte l c with
  | ofNat o =>
    obtain ⟨h1, _⟩ := Lib.indexByte_some (o := o) hi
    exact absurd rfl (h c (List.mem_of_getElem? h1))
  | negSucc o =>
    have := Lib.indexByte_ge l c
    rw [hi] at this
    omega
set_option maxHeartbeats 4000000 in
theorem IndexRune_near (s : ByteArray) (r : Int) (h0 : 0 ≤ r) (h1 : r < 128) (w : World) : Calls Tryd.prog 94 #[.string s, .int .i32 r] w (Numb (Lib.indexByte s.data.toList r.toNat.toUInt8) w) := by
  have HI := Lib.hid (fun W => IndexByte_any s r W)
  have hw8 : IntKind.u8.wrap r = r := by simp [IntKind.wrap, IntKind.signed, IntKind.bits]; omega
  have d0 : decide (0 ≤ r) = true := decide_eq_true h0
  have d1 : decide (r < 128) = true := decide_eq_true h1
  obtain ⟨I, hI⟩ : ∃ I, Lib.indexByte s.data.toList r.toNat.toUInt8 = I := ⟨_, rfl⟩
  rw [hI] at HI ⊢
  clear hI
  go_enter Tryd.func94, Tryd.ntmps94
  go_wp2_with (first | (go_at_call 95; refine (HI.out _).mono ?_; rintro e w1 ⟨rfl, rfl⟩) | fail)
  go_ret
  exact ⟨rfl, Below.refl _ _⟩
set_option maxHeartbeats 4000000 in
theorem IndexRune_bad (s : ByteArray) (r : Int) (h0 : r < 0 ∨ 127 < r) (hf : r ≠ 65533) (hv : sca r = false) (w : World) : Calls Tryd.prog 94 #[.string s, .int .i32 r] w (Numb (-1) w) := by
  have HV := Lib.hid (fun W => ValidRune_any r W)
  have hfz : (r == 65533) = false := beq_eq_false_iff_ne.2 hf
  rw [hv] at HV
  clear hv hf
  rcases h0 with h0 | h0
  · have h0' : ¬ 0 ≤ r := by omega
    have d0 : decide (0 ≤ r) = false := decide_eq_false h0'
    go_enter Tryd.func94, Tryd.ntmps94
    go_wp2_with (first | (go_at_call 96; refine (HV.out _).mono ?_; rintro e w1 ⟨rfl, rfl⟩) | fail)
    go_ret
    exact ⟨rfl, Below.refl _ _⟩
  · have h0' : 0 ≤ r := by omega
    have h1' : ¬ r < 128 := by omega
    have d0 : decide (0 ≤ r) = true := decide_eq_true h0'
    have d1 : decide (r < 128) = false := decide_eq_false h1'
    go_enter Tryd.func94, Tryd.ntmps94
    go_wp2_with (first | (go_at_call 96; refine (HV.out _).mono ?_; rintro e w1 ⟨rfl, rfl⟩) | fail)
    go_ret
    exact ⟨rfl, Below.refl _ _⟩
set_option maxHeartbeats 4000000 in
theorem IndexRune_fffd (s : ByteArray) (ha : ∀ (i : Nat) (h : i < s.size), (s[i]'h).toNat < 128) (w : World) : Calls Tryd.prog 94 #[.string s, .int .i32 65533] w (Numb (-1) w) := by
  have HA := Lib.hid ha
  clear ha
  go_enter Tryd.func94, Tryd.ntmps94
  go_upto_region 38 with fail
  go_loopg [5, 6] s.size (fun m s5 s6 wr => ∃ k : Nat, s.size - k = m ∧ k ≤ s.size ∧ wr = w.iter s k)
  case atStart => exact ⟨0, rfl, Nat.zero_le _, rfl⟩
  case round =>
    obtain ⟨k, rfl, hk, rfl⟩ := hrel
    by_cases hlt : k < s.size
    · have hn := fun ty => run_next_ascii (P := Tryd.prog) w s k ty hlt (HA.out k hlt)
      have hv := HA.out k hlt
      obtain ⟨v, hvv⟩ : ∃ v, (s[k]'hlt).toNat = v := ⟨_, rfl⟩
      simp only [hvv] at hn
      rw [hvv] at hv
      have hvz : ((v : Int) == 65533) = false := by rw [beq_eq_false_iff_ne]; omega
      clear hvv
      go_wp2_with fail
      go_roundg (s.size - (k + 1))
      case measure => omega
      case rel => exact ⟨k + 1, rfl, by omega, rfl⟩
    · have hn := fun ty => run_next_end (P := Tryd.prog) w s k ty hlt
      go_wp2_with fail
      go_ret
      exact ⟨rfl, upA w _⟩
theorem below_drewN (w : World) (n : Nat) : Below w.heap.size w (w.drewN n) := ⟨rfl, rfl, rfl, Nat.le_refl _, fun _ _ => rfl⟩
theorem mem_ascii {s : ByteArray} (ha : ∀ (i : Nat) (h : i < s.size), (s[i]'h).toNat < 128) : ∀ b ∈ dl s, b.toNat < 128 := by
  intro b hb
  obtain ⟨i, hi, rfl⟩ := List.getElem_of_mem hb
  have h : i < s.size := by simpa [dl] using hi
  have := ha i h
  have e : s[i]'h = (dl s)[i]'hi := by simp [dl]; rfl
  rw [e] at this
  exact this
set_option maxHeartbeats 4000000 in
theorem IndexRune_far (s : ByteArray) (hs : 4 ≤ s.size) (hs2 : s.size ≤ 100000) (ha : ∀ (i : Nat) (h : i < s.size), (s[i]'h).toNat < 128) (r : Int) (h0 : 127 < r) (hf : r ≠ 65533) (hv : sca r = true) (w : World) : Calls Tryd.prog 94 #[.string s, .int .i32 r] w (Numb (-1) w) := by
  have HV := Lib.hid (fun W => ValidRune_any r W)
  have hfz : (r == 65533) = false := beq_eq_false_iff_ne.2 hf
  obtain ⟨e1, e2, e3⟩ := encode_facts r (by rw [valid_sca]; exact hv) (by omega)
  have hcv : ∀ W, (convert 21 9 (.int .i32 r)).run Tryd.prog W = .ok (.string (Utf8.encode r)) W := fun W => run_convert_int_string W _ _ _ _ (by rw [Tryd.underlying21]; rfl) Tryd.underlying9
  rw [hv] at HV
  obtain ⟨rs, hrs⟩ : ∃ rs, Utf8.encode r = rs := ⟨_, rfl⟩
  rw [hrs] at e1 e2 hcv
  obtain ⟨L, hL⟩ : ∃ L, L + 1 = rs.size := ⟨rs.size - 1, by omega⟩
  have hLr : L < rs.size := by omega
  have e4 : 128 ≤ (rs[L]'hLr).toNat := by
    have := e3 (by rw [hrs]; omega)
    subst hrs
    have e : (Utf8.encode r).size - 1 = L := by omega
    simp only [e] at this
    exact this
  have hLs : L < s.size := by omega
  have hsl := ha L hLs
  have hne : (((s[L]'hLs).toNat : Int) != ((rs[L]'hLr).toNat : Int)) = true := by rw [bne_iff_ne]; omega
  have hI : Lib.indexByte (s.extract (L + 1) s.size).data.toList (((rs[L]'hLr).toNat : Int).toNat.toUInt8) = -1 := by
    refine idx_none _ _ fun b hb => ?_
    have hb2 : b ∈ (dl s).drop (L + 1) := by rw [← ext_drop]; exact hb
    have := mem_ascii ha b (List.mem_of_mem_drop hb2)
    intro e
    rw [e] at this
    have h3 : (((rs[L]'hLr).toNat : Int).toNat.toUInt8).toNat = (rs[L]'hLr).toNat := by
      rw [Int.toNat_natCast]
      show (UInt8.ofNat _).toNat = _
      rw [UInt8.ofNat_toNat]
    omega
  have HB := Lib.hid (fun W => IndexByte_any (s.extract (L + 1) s.size) ((rs[L]'hLr).toNat : Int) W)
  rw [hI] at HB
  rw [hL] at HB
  have hLz : (rs.size : Int) - 1 = (L : Int) := by omega
  have hLsz : (L : Int) < (s.size : Int) := by omega
  have hLrz : (L : Int) < (rs.size : Int) := by omega
  have hL0 : (0 : Int) ≤ (L : Int) := by omega
  have hL1 : (L : Int) + 1 ≤ (s.size : Int) := by omega
  have hwL : IntKind.i64.wrap (L : Int) = (L : Int) := IntWalk.i64_in _ (by omega)
  have hwL1 : IntKind.i64.wrap ((L : Int) + 1) = (L : Int) + 1 := IntWalk.i64_in _ (by omega)
  have hL2 : (0 : Int) ≤ (L : Int) + 1 := by omega
  have hLt : ((L : Int) + 1).toNat = L + 1 := by omega
  have hLn : L + 1 ≤ s.size := by omega
  have h0' : 0 ≤ r := by omega
  have h1' : ¬ r < 128 := by omega
  have d0 : decide (0 ≤ r) = true := decide_eq_true h0'
  have d1 : decide (r < 128) = false := decide_eq_false h1'
  clear hf hv hrs e3 hI ha
  go_enter Tryd.func94, Tryd.ntmps94
  go_upto_region 5 with (first | (go_at_call 96; refine (HV.out _).mono ?_; rintro e w1 ⟨rfl, rfl⟩) | fail)
  go_step3
  go_wp2_with fail
  go_loopg [9, 10, 11, 12] 1 (fun m s9 s10 s11 s12 wr => m = 1 ∧ s9 = .int .i64 (L : Int) ∧ s10 = .int .i64 0 ∧ wr = w)
  case atStart => exact ⟨rfl, rfl, rfl, rfl⟩
  case round =>
    obtain ⟨rfl, rfl, rfl, hwr⟩ := hrel
    go_wp2_with fail
    go_step3
    go_upto_region 6 with fail
    go_quiet (fail)
    have hB7 := below_drewN w nq
    generalize w.drewN nq = w7 at hB7 ⊢
    go_upto_region 7 with fail
    go_region_law (first | (go_simp; go_at_call 95; (with_reducible refine (HB.out _).mono ?_); rintro e' wA ⟨rfl, rfl⟩) | fail)
    all_goals
      go_wp2_with fail
      try rw [Exit.noGoto_ret]
      try rw [Exit.noGoto_ret]
      go_ret
      exact ⟨rfl, hB7.drew⟩
end Go.Proofs.YtjkfppgekepbeaaDoor.Hst
