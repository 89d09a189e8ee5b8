/-
  strconv.ParseUint: to the base 16, of up to four bytes; to the base 10, below 256.
-/
import Derived.Test.YtcoppicieicikaaDoorSixL
import Derived.Shelf.Strconv.ParseUint10At
import Derived.Shelf.Strconv.ToErrorRange
import Derived.Shelf.Strconv.ToError
import Derived.Laws.BitsAllLaws
namespace Go.Proofs.YtcoppicieicikaaDoor.Sx
open Go.RowKit Go.Shelf

def puLaid_ren : Ren := ⟨fun | 287 => 92 | 321 => 105 | 322 => 106 | n => n, fun | 9 => 9 | 3 => 3 | 53 => 73 | 75 => 65 | 4 => 4 | 167 => 135 | 5 => 5 | 46 => 38 | 37 => 34 | 0 => 0 | 21 => 21 | 80 => 69 | n => n, fun n => n⟩
theorem puLaid : LaysM.n287 Tryd.prog puLaid_ren := {
  mixed := by kernel_rfl
  f287 := by kernel_rfl
  f321 := by kernel_rfl
  f322 := by kernel_rfl
  t0 := Tryd.underlying0
  a0 := Tryd.isAgg0
  z0 := Tryd.sizeOf0
  v0 := Tryd.zeroValue0
  t3 := Tryd.underlying3
  a3 := Tryd.isAgg3
  z3 := Tryd.sizeOf3
  v3 := Tryd.zeroValue3
  t4 := Tryd.underlying4
  a4 := Tryd.isAgg4
  z4 := Tryd.sizeOf4
  v4 := Tryd.zeroValue4
  t5 := Tryd.underlying5
  a5 := Tryd.isAgg5
  z5 := Tryd.sizeOf5
  v5 := Tryd.zeroValue5
  t9 := Tryd.underlying9
  a9 := Tryd.isAgg9
  z9 := Tryd.sizeOf9
  v9 := Tryd.zeroValue9
  t21 := Tryd.underlying21
  a21 := Tryd.isAgg21
  z21 := Tryd.sizeOf21
  v21 := Tryd.zeroValue21
  t37 := Tryd.underlying34
  a37 := Tryd.isAgg34
  z37 := Tryd.sizeOf34
  v37 := Tryd.zeroValue34
  t46 := Tryd.underlying38
  a46 := Tryd.isAgg38
  z46 := Tryd.sizeOf38
  v46 := Tryd.zeroValue38
  t53 := Tryd.underlying73
  a53 := Tryd.isAgg73
  z53 := Tryd.sizeOf73
  v53 := Tryd.zeroValue73
  t75 := Tryd.underlying65
  a75 := Tryd.isAgg65
  z75 := Tryd.sizeOf65
  v75 := Tryd.zeroValue65
  t167 := Tryd.underlying135
  a167 := Tryd.isAgg135
  z167 := Tryd.sizeOf135
  v167 := Tryd.zeroValue135
  t80 := Tryd.underlying69
  a80 := Tryd.isAgg69
  z80 := Tryd.sizeOf69
  v80 := Tryd.zeroValue69
  i0 := by kernel_rfl
  i3 := by kernel_rfl
  i4 := by kernel_rfl
  i5 := by kernel_rfl
  i9 := by kernel_rfl
  i21 := by kernel_rfl
  i37 := by kernel_rfl
  i46 := by kernel_rfl
  i53 := by kernel_rfl
  i75 := by kernel_rfl
  i80 := by kernel_rfl
  i167 := by kernel_rfl
}
def teLaid_ren : Ren := ⟨fun | 245 => 93 | 279 => 107 | 280 => 108 | 281 => 109 | 282 => 110 | 316 => 114 | 171 => 18 | 205 => 115 | 243 => 41 | 246 => 66 | 283 => 82 | 284 => 83 | 285 => 84 | 286 => 85 | 129 => 98 | 317 => 97 | 318 => 99 | 319 => 100 | 320 => 101 | 337 => 111 | 338 => 112 | n => n, fun | 9 => 9 | 3 => 3 | 75 => 65 | 167 => 135 | 4 => 4 | 168 => 137 | 210 => 147 | 37 => 34 | 0 => 0 | 127 => 86 | 145 => 153 | 143 => 151 | 2 => 2 | 171 => 110 | 53 => 73 | 5 => 5 | 173 => 113 | 212 => 128 | 51 => 95 | 20 => 20 | 213 => 129 | 46 => 38 | 232 => 149 | 233 => 150 | 80 => 69 | n => n, fun | 15 => 5 | 16 => 6 | 17 => 4 | 18 => 7 | 19 => 8 | n => n⟩
theorem teLaid : LaysC.n245 Tryd.prog teLaid_ren := {
  mixed := by kernel_rfl
  f129 := by kernel_rfl
  f171 := by kernel_rfl
  f205 := by kernel_rfl
  f243 := by kernel_rfl
  f245 := by kernel_rfl
  f246 := by kernel_rfl
  f279 := by kernel_rfl
  f280 := by kernel_rfl
  f281 := by kernel_rfl
  f282 := by kernel_rfl
  f283 := by kernel_rfl
  f284 := by kernel_rfl
  f285 := by kernel_rfl
  f286 := by kernel_rfl
  f316 := by kernel_rfl
  f317 := by kernel_rfl
  f318 := by kernel_rfl
  f319 := by kernel_rfl
  f320 := by kernel_rfl
  f337 := by kernel_rfl
  f338 := by kernel_rfl
  t0 := Tryd.underlying0
  a0 := Tryd.isAgg0
  z0 := Tryd.sizeOf0
  v0 := Tryd.zeroValue0
  t2 := Tryd.underlying2
  a2 := Tryd.isAgg2
  z2 := Tryd.sizeOf2
  v2 := Tryd.zeroValue2
  t3 := Tryd.underlying3
  a3 := Tryd.isAgg3
  z3 := Tryd.sizeOf3
  v3 := Tryd.zeroValue3
  t4 := Tryd.underlying4
  a4 := Tryd.isAgg4
  z4 := Tryd.sizeOf4
  v4 := Tryd.zeroValue4
  t5 := Tryd.underlying5
  a5 := Tryd.isAgg5
  z5 := Tryd.sizeOf5
  v5 := Tryd.zeroValue5
  t9 := Tryd.underlying9
  a9 := Tryd.isAgg9
  z9 := Tryd.sizeOf9
  v9 := Tryd.zeroValue9
  t20 := Tryd.underlying20
  a20 := Tryd.isAgg20
  z20 := Tryd.sizeOf20
  v20 := Tryd.zeroValue20
  t37 := Tryd.underlying34
  a37 := Tryd.isAgg34
  z37 := Tryd.sizeOf34
  v37 := Tryd.zeroValue34
  t46 := Tryd.underlying38
  a46 := Tryd.isAgg38
  z46 := Tryd.sizeOf38
  v46 := Tryd.zeroValue38
  t51 := Tryd.underlying95
  a51 := Tryd.isAgg95
  z51 := Tryd.sizeOf95
  v51 := Tryd.zeroValue95
  t53 := Tryd.underlying73
  a53 := Tryd.isAgg73
  z53 := Tryd.sizeOf73
  v53 := Tryd.zeroValue73
  t75 := Tryd.underlying65
  a75 := Tryd.isAgg65
  z75 := Tryd.sizeOf65
  v75 := Tryd.zeroValue65
  t127 := Tryd.underlying86
  a127 := Tryd.isAgg86
  z127 := Tryd.sizeOf86
  v127 := Tryd.zeroValue86
  t143 := Tryd.underlying151
  a143 := Tryd.isAgg151
  z143 := Tryd.sizeOf151
  v143 := Tryd.zeroValue151
  t145 := Tryd.underlying153
  a145 := Tryd.isAgg153
  z145 := Tryd.sizeOf153
  v145 := Tryd.zeroValue153
  t167 := Tryd.underlying135
  a167 := Tryd.isAgg135
  z167 := Tryd.sizeOf135
  v167 := Tryd.zeroValue135
  t168 := Tryd.underlying137
  a168 := Tryd.isAgg137
  z168 := Tryd.sizeOf137
  v168 := Tryd.zeroValue137
  t171 := Tryd.underlying110
  a171 := Tryd.isAgg110
  z171 := Tryd.sizeOf110
  v171 := Tryd.zeroValue110
  t173 := Tryd.underlying113
  a173 := Tryd.isAgg113
  z173 := Tryd.sizeOf113
  v173 := Tryd.zeroValue113
  t210 := Tryd.underlying147
  a210 := Tryd.isAgg147
  z210 := Tryd.sizeOf147
  v210 := Tryd.zeroValue147
  t212 := Tryd.underlying128
  a212 := Tryd.isAgg128
  z212 := Tryd.sizeOf128
  v212 := Tryd.zeroValue128
  t213 := Tryd.underlying129
  a213 := Tryd.isAgg129
  z213 := Tryd.sizeOf129
  t232 := Tryd.underlying149
  a232 := Tryd.isAgg149
  z232 := Tryd.sizeOf149
  v232 := Tryd.zeroValue149
  t233 := Tryd.underlying150
  a233 := Tryd.isAgg150
  z233 := Tryd.sizeOf150
  v233 := Tryd.zeroValue150
  g15 := by kernel_rfl
  g16 := by kernel_rfl
  g17 := by kernel_rfl
  g18 := by kernel_rfl
  g19 := by kernel_rfl
  t80 := Tryd.underlying69
  a80 := Tryd.isAgg69
  z80 := Tryd.sizeOf69
  v80 := Tryd.zeroValue69
  i0 := by kernel_rfl
  i2 := by kernel_rfl
  i3 := by kernel_rfl
  i4 := by kernel_rfl
  i5 := by kernel_rfl
  i9 := by kernel_rfl
  i20 := by kernel_rfl
  i37 := by kernel_rfl
  i46 := by kernel_rfl
  i51 := by kernel_rfl
  i53 := by kernel_rfl
  i75 := by kernel_rfl
  i80 := by kernel_rfl
  i127 := by kernel_rfl
  i143 := by kernel_rfl
  i145 := by kernel_rfl
  i167 := by kernel_rfl
  i168 := by kernel_rfl
  i171 := by kernel_rfl
  i173 := by kernel_rfl
  i210 := by kernel_rfl
  i212 := by kernel_rfl
  i232 := by kernel_rfl
  i233 := by kernel_rfl
  m15 := by kernel_rfl
  m16 := by kernel_rfl
  m17 := by kernel_rfl
  m18 := by kernel_rfl
  m19 := by kernel_rfl
  c0 := by kernel_rfl
  c2 := by kernel_rfl
  c3 := by kernel_rfl
  c4 := by kernel_rfl
  c5 := by kernel_rfl
  c9 := by kernel_rfl
  c20 := by kernel_rfl
  c37 := by kernel_rfl
  c46 := by kernel_rfl
  c51 := by kernel_rfl
  c53 := by kernel_rfl
  c75 := by kernel_rfl
  c80 := by kernel_rfl
  c127 := by kernel_rfl
  c143 := by kernel_rfl
  c145 := by kernel_rfl
  c167 := by kernel_rfl
  c168 := by kernel_rfl
  c171 := by kernel_rfl
  c173 := by kernel_rfl
  c210 := by kernel_rfl
  c212 := by kernel_rfl
  c213 := by kernel_rfl
  c232 := by kernel_rfl
  c233 := by kernel_rfl
}

theorem conv_bytes (s : ByteArray) (w : World) : ∃ (W' : World) (c : Nat), (convert 9 34 (.string s)).run Tryd.prog w = .ok (.slice (some ⟨w.heap.size, 0, none⟩) s.size c) W' ∧ Below w.heap.size w W' ∧
    ∀ k (h : k < s.data.toList.length), W'.cell? ⟨w.heap.size, k, none⟩ = some (.int .u8 ((s.data.toList[k].toNat : Nat) : Int)) := by
  refine ⟨_, _, run_bytes_of_string w 9 34 5 s Tryd.underlying9 Tryd.underlying34 Tryd.underlying5, ?_, fun k h => ?_⟩
  · exact ((Below.refl w.heap.size w).drew).alloc (Nat.le_refl _) _
  · have hb : (w.drew.alloc (.cells (bytesRow s (grownCap w s.size 0 5)) 5 ((bytesRow s (grownCap w s.size 0 5)).size, (bytesRow s (grownCap w s.size 0 5)).size + 1))).heap[w.heap.size]? = some (.cells (bytesRow s (grownCap w s.size 0 5)) 5 ((bytesRow s (grownCap w s.size 0 5)).size, (bytesRow s (grownCap w s.size 0 5)).size + 1)) := by
      show (w.heap.push _)[w.heap.size]? = _
      simp
    simp only [World.cell?, hb]
    have hk : k < s.data.size := by simpa using h
    have hk2 : k < s.size := hk
    simp [bytesRow, Array.getElem?_append, hk2]

/-- a letter, made small -/
def lw (c : UInt8) : Nat := c.toNat ||| 32
theorem lw_all : ∀ c : Fin 256, ¬ (48 ≤ c.1 ∧ c.1 ≤ 57) → (97 ≤ (c.1 ||| 32) ∧ (c.1 ||| 32) ≤ 102 → dv (UInt8.ofNat c.1) = (c.1 ||| 32) - 87) ∧ (¬ (97 ≤ (c.1 ||| 32) ∧ (c.1 ||| 32) ≤ 102) → dv (UInt8.ofNat c.1) = 99) := by decide +kernel
theorem lw_dv {c : UInt8} (h : ¬ (48 ≤ c.toNat ∧ c.toNat ≤ 57)) : (97 ≤ lw c ∧ lw c ≤ 102 → dv c = lw c - 87) ∧ (¬ (97 ≤ lw c ∧ lw c ≤ 102) → dv c = 99) := by
  have := lw_all ⟨c.toNat, c.toNat_lt⟩ h
  simpa [lw] using this
theorem lw_lt (c : UInt8) : lw c < 256 := Nat.or_lt_two_pow (n := 8) c.toNat_lt (by decide)
theorem lower_any (c : UInt8) (w : World) : Calls Tryd.prog 105 #[.int .u8 (c.toNat : Int)] w (fun e w' => e = .returned (.int .u8 (lw c : Int)) ∧ w' = w) := by
  have h : bits .or .u8 (c.toNat : Int) 32 = (lw c : Int) := by
    have h256 := c.toNat_lt
    have e := u8_or_nat c.toNat 32 h256 (by decide)
    exact e
  go_enter Tryd.func105, Tryd.ntmps105
  go_wp2
  go_ret
  exact ⟨rfl, rfl⟩

/-- what the inner ParseUint tells -/
def PuR (o : Option Nat) (w : World) (e : Ending) (w' : World) : Prop :=
  (e = match o with | some n => .returned (.tuple #[.int .u64 (n : Int), .nilIface]) | none => .returned (.tuple #[.int .u64 0, .iface 135 (.int .i64 2)])) ∧ Below w.heap.size w w'
theorem puR_some {o : Option Nat} {n : Nat} {w w' : World} (h : o = some n) (hB : Below w.heap.size w w') : PuR o w (.returned (.tuple #[.int .u64 (n : Int), .nilIface])) w' := ⟨by rw [h], hB⟩
theorem puR_none {o : Option Nat} {w w' : World} (h : o = none) (hB : Below w.heap.size w w') : PuR o w (.returned (.tuple #[.int .u64 0, .iface 135 (.int .i64 2)])) w' := ⟨by rw [h], hB⟩
theorem lt_four {k acc : Nat} (hk : k < 4) (h : acc < 16 ^ k) : acc < 4096 := Nat.lt_of_lt_of_le h (Nat.pow_le_pow_right (n := 16) (by decide) (by omega : k ≤ 3))
set_option maxRecDepth 100000 in
set_option maxHeartbeats 4000000 in
theorem pu16_in (t : ByteArray) (h0 : t.size ≠ 0) (h4 : t.size ≤ 4) (w : World) :
    Calls Tryd.prog 92 #[.string t, .int .i64 16, .int .i64 16] w (PuR (vgo 16 0 (dl t)) w) := by
  have hz : (dl t).length = t.size := by simp [dl]
  have hemp : t.toList.isEmpty = false := by
    rw [ByteArray.toList_eq, List.isEmpty_eq_false_iff]
    intro e
    rw [dl, e] at hz
    exact h0 hz.symm
  obtain ⟨W1, cc, hrun, hB, hcells⟩ := conv_bytes t w
  have HZ := Lib.hid hz
  have HC := Lib.hid hcells
  have HB := Lib.hid hB
  have hlt1 : w.heap.size < W1.heap.size := cell_lt (hcells 0 (by rw [← Lib.size_eq]; omega))
  have hmv : IntKind.u64.wrap (IntKind.u64.wrap 65536 - 1) = 65535 := by
    rw [IntKind.wrap_u64, IntKind.wrap_u64]
    decide
  clear hz hcells hB
  go_enter Tryd.func92, Tryd.ntmps92
  go_wp2
  go_loopg [12, 13, 101] t.size (fun m s12 s13 s101 wr => ∃ k n : Nat, s12 = .bool false ∧ s101 = .int .i64 (k : Int) ∧ s13 = .int .u64 (n : Int) ∧ m = t.size - k ∧ k ≤ t.size ∧ Hid (n < 16 ^ k ∧ vgo 16 0 (dl t) = vgo 16 n ((dl t).drop k)) ∧ wr = W1)
  case atStart => exact ⟨0, 0, rfl, rfl, rfl, rfl, Nat.zero_le _, Lib.hid ⟨by decide, rfl⟩, rfl⟩
  case round =>
    obtain ⟨k, n, rfl, rfl, rfl, rfl, hk, HV, rfl⟩ := hrel
    by_cases hlt : k < t.size
    · have hkl : k < (dl t).length := by rw [HZ.out]; exact hlt
      have c1 : wr.cell? ⟨w.heap.size, k, none⟩ = some (.int .u8 (((dl t)[k].toNat : Nat) : Int)) := HC.out k hkl
      obtain ⟨hn, hv⟩ := HV.out
      rw [List.drop_eq_getElem_cons hkl, vgo] at hv
      have hn4 := lt_four (by omega : k < 4) hn
      have hn5 : n < 16 ^ k := hn
      generalize (dl t)[k] = c at c1 hv
      have hc256 : c.toNat < 256 := c.toNat_lt
      have hltz : (k : Int) < (t.size : Int) := by omega
      have HL := Lib.hid (fun W => lower_any c W)
      have hlw := lw_lt c
      have hdd := lw_dv (c := c)
      clear hn
      by_cases hdig : 48 ≤ c.toNat ∧ c.toNat ≤ 57
      · obtain ⟨hd0, hd1⟩ := hdig
        have hd : dv c = c.toNat - 48 := by unfold dv; rw [if_pos ⟨hd0, hd1⟩]
        rw [hd, if_pos (by omega)] at hv
        obtain ⟨d, hdx⟩ : ∃ d : Nat, c.toNat = 48 + d := ⟨c.toNat - 48, by omega⟩
        rw [hdx, Nat.add_sub_cancel_left] at hv
        have hdi : (c.toNat : Int) - 48 = (d : Int) := by omega
        have hd9 : d ≤ 9 := by omega
        have hm : (n : Int) * 16 = ((n * 16 : Nat) : Int) := by simp
        have HN : Hid (n * 16 + d < 16 ^ (k + 1) ∧ vgo 16 0 (dl t) = vgo 16 (n * 16 + d) ((dl t).drop (k + 1))) := Lib.hid ⟨by rw [Nat.pow_succ]; omega, hv⟩
        obtain ⟨p, hp⟩ : ∃ p, n * 16 = p := ⟨_, rfl⟩
        have hp4 : p ≤ 65520 := by omega
        rw [hp] at hm HN
        have hc1 : ¬ ((1152921504606846976 : Int) ≤ (n : Int)) := by omega
        have hc2 : (p : Int) + (d : Int) ≤ 65535 := by omega
        have hc3 : ¬ ((p : Int) + (d : Int) < (p : Int)) := by omega
        clear hv hn5 hdd hlw HL hd hdx hp HV hp4 hn4 hmv
        go_wp2
        go_roundg (t.size - (k + 1))
        case measure => omega
        case rel => exact ⟨k + 1, p + d, rfl, by go_num, by go_num, rfl, by omega, HN, rfl⟩
      · obtain ⟨hd1, hd2⟩ := hdd hdig
        have h95 : lw c ≤ 122 → 97 ≤ lw c → ((c.toNat : Int) == 95) = false := by
          intro g1 g2
          rw [beq_eq_false_iff_ne]
          intro e
          have e2 : c.toNat = 95 := by omega
          have : lw c = 127 := by unfold lw; rw [e2]; decide
          omega
        have hdigz : ¬ (48 ≤ (c.toNat : Int) ∧ (c.toNat : Int) ≤ 57) := by omega
        by_cases hl : 97 ≤ lw c ∧ lw c ≤ 102
        · have hd := hd1 hl
          have hq := h95 (by omega) hl.1
          rw [hd, if_pos (by omega)] at hv
          obtain ⟨v, hvv⟩ : ∃ v, lw c = v := ⟨_, rfl⟩
          rw [hvv] at HL hl hv
          have hm : (n : Int) * 16 = ((n * 16 : Nat) : Int) := by simp
          have HN : Hid (n * 16 + (v - 87) < 16 ^ (k + 1) ∧ vgo 16 0 (dl t) = vgo 16 (n * 16 + (v - 87)) ((dl t).drop (k + 1))) := Lib.hid ⟨by rw [Nat.pow_succ]; omega, hv⟩
          obtain ⟨p, hp⟩ : ∃ p, n * 16 = p := ⟨_, rfl⟩
          have hp4 : p ≤ 65520 := by omega
          rw [hp] at hm HN
          have hl1 : 97 ≤ (v : Int) := by omega
          have hl2 : (v : Int) ≤ 122 := by omega
          have hl3 : (v : Int) ≤ 102 := by omega
          have HC1 : Hid (¬ ((1152921504606846976 : Int) ≤ (n : Int))) := Lib.hid (by omega)
          have HP4 := Lib.hid hp4
          have HM := Lib.hid hm
          have HLL := Lib.hid hl
          clear hm
          clear hv hn5 hd1 hd2 hlw hl h95 hd hp HV hvv hdig hp4 hn4 hmv
          by_cases hge : 48 ≤ (c.toNat : Int)
          · have hgt : ¬ (c.toNat : Int) ≤ 57 := by omega
            clear hdigz
            go_upto_region 46 with (first | (go_at_call 105; refine (HL.out _).mono ?_; rintro e w' ⟨rfl, rfl⟩) | fail)
            obtain ⟨d, hd⟩ : ∃ d : Nat, (v : Int) - 97 + 10 = (d : Int) := ⟨v - 87, by have := HLL.out; omega⟩
            rw [hd]
            have hd5 : d ≤ 15 := by have := HLL.out; omega
            have hdv : d = v - 87 := by omega
            rw [← hdv] at HN
            have HC2 : Hid ((p : Int) + (d : Int) ≤ 65535) := Lib.hid (by have := HP4.out; omega)
            have HC3 : Hid (¬ ((p : Int) + (d : Int) < (p : Int))) := Lib.hid (by omega)
            have hw1 : IntKind.u64.wrap (p : Int) = (p : Int) := by rw [IntKind.wrap_u64]; have := HP4.out; omega
            have hw2 : IntKind.u64.wrap ((p : Int) + (d : Int)) = (p : Int) + (d : Int) := by rw [IntKind.wrap_u64]; have := HP4.out; omega
            have hdec : decide ((16 : Int) ≤ (d : Int)) = false := decide_eq_false (by omega)
            clear hd hdv hl1 hl2 hl3 HLL HL HP4
            clear hge
            try clear hgt
            clear hq
            go_upto_region 48 with fail
            have hc1 : decide ((1152921504606846976 : Int) ≤ (n : Int)) = false := decide_eq_false (by have := HC1.out; omega)
            go_upto_region 50 with fail
            have hm := HM.out
            go_upto_region 52 with fail
            have hc2 : decide ((65535 : Int) < (p : Int) + (d : Int)) = false := decide_eq_false (by have := HC2.out; omega)
            clear hc1 hm HM HC1 HC2 HC3
            have hc3 : decide ((p : Int) + (d : Int) < (p : Int)) = false := decide_eq_false (by omega)
            go_wp2
            go_roundg (t.size - (k + 1))
            case measure => omega
            case rel => exact ⟨k + 1, p + d, rfl, by go_num, by go_num, rfl, by omega, HN, rfl⟩
          · clear hdigz
            go_upto_region 46 with (first | (go_at_call 105; refine (HL.out _).mono ?_; rintro e w' ⟨rfl, rfl⟩) | fail)
            obtain ⟨d, hd⟩ : ∃ d : Nat, (v : Int) - 97 + 10 = (d : Int) := ⟨v - 87, by have := HLL.out; omega⟩
            rw [hd]
            have hd5 : d ≤ 15 := by have := HLL.out; omega
            have hdv : d = v - 87 := by omega
            rw [← hdv] at HN
            have HC2 : Hid ((p : Int) + (d : Int) ≤ 65535) := Lib.hid (by have := HP4.out; omega)
            have HC3 : Hid (¬ ((p : Int) + (d : Int) < (p : Int))) := Lib.hid (by omega)
            have hw1 : IntKind.u64.wrap (p : Int) = (p : Int) := by rw [IntKind.wrap_u64]; have := HP4.out; omega
            have hw2 : IntKind.u64.wrap ((p : Int) + (d : Int)) = (p : Int) + (d : Int) := by rw [IntKind.wrap_u64]; have := HP4.out; omega
            have hdec : decide ((16 : Int) ≤ (d : Int)) = false := decide_eq_false (by omega)
            clear hd hdv hl1 hl2 hl3 HLL HL HP4
            clear hge
            try clear hgt
            clear hq
            go_upto_region 48 with fail
            have hc1 : decide ((1152921504606846976 : Int) ≤ (n : Int)) = false := decide_eq_false (by have := HC1.out; omega)
            go_upto_region 50 with fail
            have hm := HM.out
            go_upto_region 52 with fail
            have hc2 : decide ((65535 : Int) < (p : Int) + (d : Int)) = false := decide_eq_false (by have := HC2.out; omega)
            clear hc1 hm HM HC1 HC2 HC3
            have hc3 : decide ((p : Int) + (d : Int) < (p : Int)) = false := decide_eq_false (by omega)
            go_wp2
            go_roundg (t.size - (k + 1))
            case measure => omega
            case rel => exact ⟨k + 1, p + d, rfl, by go_num, by go_num, rfl, by omega, HN, rfl⟩
        · have hd := hd2 hl
          rw [hd, if_neg (by decide)] at hv
          have HN := Lib.hid hv
          obtain ⟨v, hvv⟩ : ∃ v, lw c = v := ⟨_, rfl⟩
          rw [hvv] at HL hl hlw
          clear hv hn5 hd1 hd2 h95 hd HV hvv hdig
          by_cases hge : 48 ≤ (c.toNat : Int)
          · have hgt : ¬ (c.toNat : Int) ≤ 57 := by omega
            clear hdigz
            cases hq : ((c.toNat : Int) == 95)
            all_goals
              by_cases hl1 : 97 ≤ (v : Int)
              · by_cases hl2 : (v : Int) ≤ 122
                · have hdd : 16 ≤ (v : Int) - 97 + 10 := by omega
                  go_wp2_with (first | (go_at_call 105; refine (HL.out _).mono ?_; rintro e w' ⟨rfl, rfl⟩) | fail)
                  go_ret2
                  exact puR_none HN.out HB.out
                · go_wp2_with (first | (go_at_call 105; refine (HL.out _).mono ?_; rintro e w' ⟨rfl, rfl⟩) | fail)
                  go_ret2
                  exact puR_none HN.out HB.out
              · go_wp2_with (first | (go_at_call 105; refine (HL.out _).mono ?_; rintro e w' ⟨rfl, rfl⟩) | fail)
                go_ret2
                exact puR_none HN.out HB.out
          · clear hdigz
            cases hq : ((c.toNat : Int) == 95)
            all_goals
              by_cases hl1 : 97 ≤ (v : Int)
              · by_cases hl2 : (v : Int) ≤ 122
                · have hdd : 16 ≤ (v : Int) - 97 + 10 := by omega
                  go_wp2_with (first | (go_at_call 105; refine (HL.out _).mono ?_; rintro e w' ⟨rfl, rfl⟩) | fail)
                  go_ret2
                  exact puR_none HN.out HB.out
                · go_wp2_with (first | (go_at_call 105; refine (HL.out _).mono ?_; rintro e w' ⟨rfl, rfl⟩) | fail)
                  go_ret2
                  exact puR_none HN.out HB.out
              · go_wp2_with (first | (go_at_call 105; refine (HL.out _).mono ?_; rintro e w' ⟨rfl, rfl⟩) | fail)
                go_ret2
                exact puR_none HN.out HB.out
    · obtain rfl : k = t.size := by omega
      have hltz : ¬ ((t.size : Int) < (t.size : Int)) := by omega
      have hv := HV.out.2
      rw [List.drop_eq_nil_of_le (by rw [HZ.out]; exact Nat.le_refl _), vgo] at hv
      have HN := Lib.hid hv
      clear hv HV hlt
      go_wp2
      go_ret2
      exact puR_some HN.out HB.out
end Go.Proofs.YtcoppicieicikaaDoor.Sx
