/-
  The document's own answer of layer 4: least.
-/
import Derived.Test.YtcdjjodiiaahfaaPunyX
import Derived.Deep.DeepCutAuto
import Derived.Deep.LoopGhost
namespace Go.Proofs.Ytcdjjodiiaahfaa
open Go.RowKit Go.Shelf Puny

/-- who comes behind (m, at) -/
def Past (m : Nat) (at' : Int) (x : Nat × Nat) : Prop := ¬ x.1 < m ∧ ¬ (x.1 = m ∧ (x.2 : Int) ≤ at')
def El (l : List Nat) (m : Nat) (at' : Int) (t : Nat) : Prop := ∃ x, l[t]? = some x ∧ 128 ≤ x ∧ Past m at' (x, t)
def Bst (l : List Nat) (m : Nat) (at' : Int) (i : Nat) : Option (Nat × Nat) → Prop
  | none => ∀ t, t < i → ¬ El l m at' t
  | some (b, q) => q < i ∧ l[q]? = some b ∧ El l m at' q ∧ ∀ t, t < i → El l m at' t → ∀ x, l[t]? = some x → b < x ∨ b = x ∧ q ≤ t

theorem bst_no {l : List Nat} {m i : Nat} {at' : Int} {o : Option (Nat × Nat)} (h : Bst l m at' i o) (hn : ¬ El l m at' i) : Bst l m at' (i + 1) o := by
  cases o with
  | none =>
    intro t ht
    by_cases e : t = i
    · rw [e]; exact hn
    · exact h t (by omega)
  | some x =>
    obtain ⟨b, q⟩ := x
    obtain ⟨h1, h2, h3, h4⟩ := h
    refine ⟨by omega, h2, h3, fun t ht hel x hx => ?_⟩
    by_cases e : t = i
    · rw [e] at hel; exact absurd hel hn
    · exact h4 t (by omega) hel x hx
theorem bst_first {l : List Nat} {m i r : Nat} {at' : Int} (h : Bst l m at' i none) (hr : l[i]? = some r) (he : El l m at' i) : Bst l m at' (i + 1) (some (r, i)) := by
  refine ⟨by omega, hr, he, fun t ht hel x hx => ?_⟩
  by_cases e : t = i
  · subst e; rw [hr] at hx; injection hx with hx; omega
  · exact absurd hel (h t (by omega))
theorem bst_less {l : List Nat} {m i r b q : Nat} {at' : Int} (h : Bst l m at' i (some (b, q))) (hr : l[i]? = some r) (he : El l m at' i) (hlt : r < b) : Bst l m at' (i + 1) (some (r, i)) := by
  obtain ⟨h1, h2, h3, h4⟩ := h
  refine ⟨by omega, hr, he, fun t ht hel x hx => ?_⟩
  by_cases e : t = i
  · subst e; rw [hr] at hx; injection hx with hx; omega
  · have := h4 t (by omega) hel x hx; omega
theorem bst_keep {l : List Nat} {m i r b q : Nat} {at' : Int} (h : Bst l m at' i (some (b, q))) (hr : l[i]? = some r) (hlt : ¬ r < b) : Bst l m at' (i + 1) (some (b, q)) := by
  obtain ⟨h1, h2, h3, h4⟩ := h
  refine ⟨by omega, h2, h3, fun t ht hel x hx => ?_⟩
  by_cases e : t = i
  · subst e; rw [hr] at hx; injection hx with hx; omega
  · exact h4 t (by omega) hel x hx

def Nxt (l : List Nat) (j : Nat) : Option (Nat × Nat) → Prop
  | none => (evi l).length ≤ j
  | some x => (evi l)[j]? = some x
theorem bst_end {l : List Nat} {m j : Nat} {at' : Int} {o : Option (Nat × Nat)} (h : Bst l m at' l.length o) (hj : ∀ i (hi : i < (evi l).length), Past m at' (evi l)[i] ↔ j ≤ i) : Nxt l j o := by
  have hel : ∀ i (hi : i < (evi l).length), j ≤ i → El l m at' ((evi l)[i]).2 ∧ l[((evi l)[i]).2]? = some ((evi l)[i]).1 ∧ ((evi l)[i]).2 < l.length := fun i hi hji => by
    have h1 := (evi_mem l _).1 (List.getElem_mem hi)
    refine ⟨⟨_, h1.1, h1.2, (hj i hi).2 hji⟩, h1.1, ?_⟩
    by_cases h2 : ((evi l)[i]).2 < l.length
    · exact h2
    · rw [List.getElem?_eq_none (by omega)] at h1; cases h1.1
  cases o with
  | none =>
    show (evi l).length ≤ j
    by_cases hlt : j < (evi l).length
    · obtain ⟨e1, _, e3⟩ := hel j hlt (Nat.le_refl _)
      exact absurd e1 (h _ e3)
    · omega
  | some x =>
    obtain ⟨b, q⟩ := x
    obtain ⟨h1, h2, ⟨x', hx1, hx2, hx3⟩, h4⟩ := h
    obtain rfl : x' = b := by rw [h2] at hx1; exact (Option.some.inj hx1).symm
    have hmem : (x', q) ∈ evi l := (evi_mem l _).2 ⟨h2, hx2⟩
    obtain ⟨i, hi, hie⟩ := List.mem_iff_getElem.1 hmem
    have hji : j ≤ i := (hj i hi).1 (by rw [hie]; exact hx3)
    show (evi l)[j]? = some (x', q)
    by_cases e : j = i
    · subst e; rw [List.getElem?_eq_getElem hi, hie]
    · have hjl : j < (evi l).length := by omega
      obtain ⟨e1, e2, e3⟩ := hel j hjl (Nat.le_refl _)
      have h5 := h4 _ e3 e1 _ e2
      have h6 := List.pairwise_iff_getElem.1 (evi_rise l) j i hjl hi (by omega)
      rw [hie] at h6
      unfold Lex at h6
      simp only at h6
      omega

def ElB (l : List Nat) (m : Nat) (at' : Int) (i : Nat) : Bool → Prop
  | true => ¬ El l m at' i
  | false => El l m at' i
def ElR (l : List Nat) (m : Nat) (at' : Int) (i : Nat) (w : World) (v : Value) (wx : World) : Prop := ∃ B : Bool, v = .bool B ∧ ElB l m at' i B ∧ wx = w
theorem el_no {l : List Nat} {m i r : Nat} {at' : Int} (hr : l[i]? = some r) (h : r < 128 ∨ r < m ∨ (r = m ∧ (i : Int) ≤ at')) : ElB l m at' i true := by
  rintro ⟨x, h1, h2, h3, h4⟩
  rw [hr] at h1
  injection h1 with h1
  subst h1
  simp only at h3 h4
  omega
theorem el_yes {l : List Nat} {m i r : Nat} {at' : Int} (hr : l[i]? = some r) (h1 : ¬ r < 128) (h2 : ¬ r < m) (h3 : ¬ (r = m ∧ (i : Int) ≤ at')) : ElB l m at' i false := ⟨r, hr, by omega, h2, h3⟩
theorem elr_mk {l : List Nat} {m i : Nat} {at' : Int} {w : World} {v : Value} (B : Bool) (h : ElB l m at' i B) (hv : v = .bool B) : ElR l m at' i w v w := ⟨B, hv, h, rfl⟩

def leastV : Option (Nat × Nat) → Value
  | none => .tuple #[.int .i32 0, .int .i64 (-1), .bool false]
  | some x => .tuple #[.int .i32 (x.1 : Int), .int .i64 (x.2 : Int), .bool true]
def Leasted (l : List Nat) (j : Nat) (w : World) (e : Ending) (w' : World) : Prop := ∃ o, Nxt l j o ∧ e = .returned (leastV o) ∧ w = w'
def bestV : Option (Nat × Nat) → Int × Int
  | none => (0, -1)
  | some x => ((x.1 : Int), (x.2 : Int))

set_option maxRecDepth 100000 in
set_option maxHeartbeats 2000000 in
theorem rLeast_any (l : List Nat) (A : Option Addr) (n c m j : Nat) (at' : Int) (w : World) (hn : l.length = n) (hn1 : n ≤ 100000) (hj : ∀ i (hi : i < (evi l).length), Past m at' (evi l)[i] ↔ j ≤ i) (hr : Row w w.heap.size A (cn l)) :
    Calls Try.prog 26 #[.slice A n c, .int .i32 m, .int .i64 at'] w (Leasted l j w) := by
  have HN := Lib.hid hn
  have HJ := Lib.hid hj
  clear hn hj
  go_enter Try.func26, Try.ntmps26
  go_wp2
  go_loopg [9, 10, 11] n (fun g s9 s10 s11 wr => ∃ (i : Nat) (o : Option (Nat × Nat)), s11 = .int .i64 (i : Int) ∧ s9 = .int .i32 (bestV o).1 ∧ s10 = .int .i64 (bestV o).2 ∧ i + g = n ∧ Hid (Bst l m at' i o) ∧ wr = w)
  case atStart => exact ⟨0, none, rfl, rfl, rfl, by omega, Lib.hid (fun t ht => by omega), rfl⟩
  case round =>
    obtain ⟨i, o, rfl, rfl, rfl, hig, HO, hwr⟩ := hrel
    rw [hwr]
    clear hwr
    rcases gk with _ | g
    · obtain rfl : i = n := by omega
      have HE : Hid (Nxt l j o) := Lib.hid (bst_end (by rw [HN.out]; exact HO.out) HJ.out)
      cases o with
      | none =>
        simp only [bestV]
        go_wp2
        go_ret3
        exact ⟨none, HE.out, rfl, rfl⟩
      | some x =>
        obtain ⟨b, q⟩ := x
        simp only [bestV]
        have hq0 : (0 : Int) ≤ (q : Int) := by omega
        go_wp2
        go_ret3
        exact ⟨some (b, q), HE.out, rfl, rfl⟩
    · have hin : i < l.length := by rw [HN.out]; omega
      have hizn : (i : Int) < (n : Int) := by omega
      obtain ⟨bb, off, rfl, hbb, hc⟩ := hr.at_ (by simp; omega)
      have hcell := hc i (by simp; omega)
      rw [cn_get _ _ hin] at hcell
      have HL : Hid (l[i]? = some l[i]) := Lib.hid (List.getElem?_eq_getElem hin)
      obtain ⟨r, hx⟩ : ∃ r, l[i] = r := ⟨_, rfl⟩
      rw [hx] at hcell HL
      have HC := Lib.hid hc
      clear hc hx
      go_upto_region 5 with fail
      go_cut [43] from 12 to 58 (fun s43 wx => ElR l m at' i w s43 wx)
      case first =>
        by_cases c1 : r < 128
        · have z1 : (r : Int) < 128 := by omega
          go_wp2_with fail
          go_meet
          exact elr_mk true (el_no HL.out (.inl c1)) (by first | rfl | simp)
        · have z1 : ¬ (r : Int) < 128 := by omega
          by_cases c2 : r < m
          · have z2 : (r : Int) < (m : Int) := by omega
            go_wp2_with fail
            go_meet
            exact elr_mk true (el_no HL.out (.inr (.inl c2))) (by first | rfl | simp)
          · have z2 : ¬ (r : Int) < (m : Int) := by omega
            by_cases c3 : r = m
            · subst c3
              by_cases c4 : (i : Int) ≤ at'
              · have HC4 := Lib.hid c4
                go_wp2_with fail
                go_meet
                exact elr_mk true (el_no HL.out (.inr (.inr ⟨rfl, by omega⟩))) (by first | rfl | exact congrArg Value.bool (decide_eq_true (by omega)))
              · have HC4 := Lib.hid c4
                have z4 : at' < (i : Int) := by omega
                go_wp2_with fail
                go_meet
                exact elr_mk false (el_yes HL.out c1 c2 (fun h => absurd h.2 (by omega))) (by first | rfl | exact congrArg Value.bool (decide_eq_false (by omega)))
            · have z3 : ((r : Int) == (m : Int)) = false := by simp; omega
              have z4 : ¬ (r : Int) = (m : Int) := by omega
              go_wp2_with fail
              go_meet
              exact elr_mk false (el_yes HL.out c1 c2 (fun h => c3 h.1)) (by first | rfl | simp)
      case rest =>
        obtain ⟨B, rfl, hB, hwc⟩ := hcut
        have HB := Lib.hid hB
        clear hB
        rw [hwc]
        clear hwc
        cases B with
        | true =>
          have hnel : Hid (¬ El l m at' i) := Lib.hid HB.out
          go_wp2_with fail
          go_roundg g
          case measure => omega
          case rel => exact ⟨i + 1, o, by go_num, rfl, rfl, by omega, Lib.hid (bst_no HO.out hnel.out), rfl⟩
        | false =>
          have HEL : Hid (El l m at' i) := Lib.hid HB.out
          cases o with
          | none =>
            simp only [bestV]
            go_wp2_with fail
            go_roundg g
            case measure => omega
            case rel => exact ⟨i + 1, some (r, i), by go_num, rfl, rfl, by omega, Lib.hid (bst_first HO.out HL.out HEL.out), rfl⟩
          | some x =>
            obtain ⟨b, q⟩ := x
            simp only [bestV]
            have hq0 : ¬ (q : Int) < 0 := by omega
            by_cases hlt : r < b
            · have z : (r : Int) < (b : Int) := by omega
              go_wp2_with fail
              go_roundg g
              case measure => omega
              case rel => exact ⟨i + 1, some (r, i), by go_num, rfl, rfl, by omega, Lib.hid (bst_less HO.out HL.out HEL.out hlt), rfl⟩
            · have z : ¬ (r : Int) < (b : Int) := by omega
              have z2 : (b : Int) ≤ (r : Int) := by omega
              go_wp2_with fail
              go_roundg g
              case measure => omega
              case rel => exact ⟨i + 1, some (b, q), by go_num, rfl, rfl, by omega, Lib.hid (bst_keep HO.out HL.out hlt), rfl⟩
end Go.Proofs.Ytcdjjodiiaahfaa
