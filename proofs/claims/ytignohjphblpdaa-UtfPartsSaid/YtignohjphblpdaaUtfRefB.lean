/-
  The contract of the document's own answer for layer 1: goes.
-/
import Derived.Test.YtignohjphblpdaaUtfRefA
namespace Go.Proofs.Ytignohjphblpdaa
open Go.RowKit Utf

def IsVal (v : Value) (w : World) (e : Ending) (w' : World) : Prop := e = .returned v ∧ w = w'

theorem goes_unfold {c : Int} {t : List Int} {m : Nat} (hm : lng c = m) (h0 : m ≠ 0) (hl : (c :: t).length ≤ m) (ht : tailsM (c :: t) = true) {x y : Int} (hx : num (c :: t) m 0 = x) (hy : num (c :: t) m 63 = y) :
    goesM (c :: t) = decide (low2 (low1 x (fromM m)) ≤ top1 y) := by
  subst hx hy hm
  simp only [goesM, ht, decide_eq_false h0, decide_eq_false (show ¬ lng c < (c :: t).length by omega), Bool.or_self, Bool.not_true, Bool.not_false, Bool.true_and]

set_option maxHeartbeats 2000000 in
theorem goes_last (bs : List Int) (b off n c m : Nat) (c0 x y : Int) (w : World) (r : Bool) (hn : bs.length = n) (h1 : 1 ≤ n) (hm : n ≤ 100000) (hby : Byt bs) (hr : Row w w.heap.size (some ⟨b, off, none⟩) (cl .u8 bs))
    (hc0 : w.cell? ⟨b, off, none⟩ = some (.int .u8 c0)) (h00 : 0 ≤ c0) (h05 : c0 ≤ 255) (hL : lng c0 = m) (hm0 : 1 ≤ m) (hm4 : m ≤ 4) (hnm : n ≤ m) (ht : tailsM bs = true)
    (hx : num bs m 0 = x) (hy : num bs m 63 = y) (fr lo1 : Int) (hfr : fromM m = fr) (hl1 : low1 x fr = lo1) (hres : r = decide (low2 lo1 ≤ top1 y)) :
    Calls Try.prog 24 #[.slice (some ⟨b, off, none⟩) n c] w (IsVal (.bool r) w) := by
  have hnum0 := number_any bs (some ⟨b, off, none⟩) n c m 0 w hn h1 hm hby hr hm4 (by omega) (by omega)
  have hnum1 := number_any bs (some ⟨b, off, none⟩) n c m 63 w hn h1 hm hby hr hm4 (by omega) (by omega)
  rw [hx] at hnum0
  rw [hy] at hnum1
  have htl := tails_any bs (some ⟨b, off, none⟩) n c w hn hm hr
  rw [ht] at htl
  have hlg := long_any c0 w h00 h05
  rw [hL] at hlg
  have HT := Lib.hid htl
  have HL := Lib.hid hlg
  have H0 := Lib.hid hnum0
  have H1 := Lib.hid hnum1
  have HR := Lib.hid hres
  clear hnum0 hnum1 htl hlg hL ht hx hy hres hr hn hby
  have q0 : ((n : Int) == 0) = false := by simp; omega
  have q1 : ((m : Int) == 0) = false := by simp; omega
  have hmm : m = 1 ∨ m = 2 ∨ m = 3 ∨ m = 4 := by omega
  have fin : ∀ (z : Int), low1 x fr = z → True := fun _ _ => trivial
  clear fin
  unfold low1 at hl1
  unfold fromM at hfr
  rcases hmm with e | e | e | e
  · rw [if_neg (by omega), if_neg (by omega), if_neg (by omega)] at hfr
    subst hfr
    have p2 : ((m : Int) == 2) = false := by simp; omega
    have p3 : ((m : Int) == 3) = false := by simp; omega
    have p4 : ((m : Int) == 4) = false := by simp; omega
    clear e
    by_cases hlo : x < 0
    · rw [if_pos hlo] at hl1
      subst hl1
      by_cases hto : 1114111 < y
      · go_enter Try.func24, Try.ntmps24
        go_wp2_with fail
        refine HL.out.mono ?_
        rintro e w' ⟨rfl, rfl⟩
        go_wp2_with fail
        refine HT.out.mono ?_
        rintro e w' ⟨rfl, rfl⟩
        go_wp2_with fail
        refine H0.out.mono ?_
        rintro e w' ⟨rfl, rfl⟩
        go_wp2_with fail
        refine H1.out.mono ?_
        rintro e w' ⟨rfl, rfl⟩
        go_wp2
        all_goals go_ret
        all_goals refine ⟨ret_bool ?_, rfl⟩
        all_goals rw [HR.out]
        all_goals simp only [low2, top1]
        all_goals (first | (simp; done) | (simp; omega) | (split <;> split <;> simp <;> omega) | (repeat' split) <;> simp <;> omega)
      · go_enter Try.func24, Try.ntmps24
        go_wp2_with fail
        refine HL.out.mono ?_
        rintro e w' ⟨rfl, rfl⟩
        go_wp2_with fail
        refine HT.out.mono ?_
        rintro e w' ⟨rfl, rfl⟩
        go_wp2_with fail
        refine H0.out.mono ?_
        rintro e w' ⟨rfl, rfl⟩
        go_wp2_with fail
        refine H1.out.mono ?_
        rintro e w' ⟨rfl, rfl⟩
        go_wp2
        all_goals go_ret
        all_goals refine ⟨ret_bool ?_, rfl⟩
        all_goals rw [HR.out]
        all_goals simp only [low2, top1]
        all_goals (first | (simp; done) | (simp; omega) | (split <;> split <;> simp <;> omega) | (repeat' split) <;> simp <;> omega)
    · rw [if_neg hlo] at hl1
      subst hl1
      by_cases hto : 1114111 < y
      · by_cases hr1 : 55296 ≤ x
        · by_cases hr2 : x ≤ 57343
          · go_enter Try.func24, Try.ntmps24
            go_wp2_with fail
            refine HL.out.mono ?_
            rintro e w' ⟨rfl, rfl⟩
            go_wp2_with fail
            refine HT.out.mono ?_
            rintro e w' ⟨rfl, rfl⟩
            go_wp2_with fail
            refine H0.out.mono ?_
            rintro e w' ⟨rfl, rfl⟩
            go_wp2_with fail
            refine H1.out.mono ?_
            rintro e w' ⟨rfl, rfl⟩
            go_wp2
            all_goals go_ret
            all_goals refine ⟨ret_bool ?_, rfl⟩
            all_goals rw [HR.out]
            all_goals simp only [low2, top1]
            all_goals (first | (simp; done) | (simp; omega) | (split <;> split <;> simp <;> omega) | (repeat' split) <;> simp <;> omega)
          · go_enter Try.func24, Try.ntmps24
            go_wp2_with fail
            refine HL.out.mono ?_
            rintro e w' ⟨rfl, rfl⟩
            go_wp2_with fail
            refine HT.out.mono ?_
            rintro e w' ⟨rfl, rfl⟩
            go_wp2_with fail
            refine H0.out.mono ?_
            rintro e w' ⟨rfl, rfl⟩
            go_wp2_with fail
            refine H1.out.mono ?_
            rintro e w' ⟨rfl, rfl⟩
            go_wp2
            all_goals go_ret
            all_goals refine ⟨ret_bool ?_, rfl⟩
            all_goals rw [HR.out]
            all_goals simp only [low2, top1]
            all_goals (first | (simp; done) | (simp; omega) | (split <;> split <;> simp <;> omega) | (repeat' split) <;> simp <;> omega)
        · go_enter Try.func24, Try.ntmps24
          go_wp2_with fail
          refine HL.out.mono ?_
          rintro e w' ⟨rfl, rfl⟩
          go_wp2_with fail
          refine HT.out.mono ?_
          rintro e w' ⟨rfl, rfl⟩
          go_wp2_with fail
          refine H0.out.mono ?_
          rintro e w' ⟨rfl, rfl⟩
          go_wp2_with fail
          refine H1.out.mono ?_
          rintro e w' ⟨rfl, rfl⟩
          go_wp2
          all_goals go_ret
          all_goals refine ⟨ret_bool ?_, rfl⟩
          all_goals rw [HR.out]
          all_goals simp only [low2, top1]
          all_goals (first | (simp; done) | (simp; omega) | (split <;> split <;> simp <;> omega) | (repeat' split) <;> simp <;> omega)
      · by_cases hr1 : 55296 ≤ x
        · by_cases hr2 : x ≤ 57343
          · go_enter Try.func24, Try.ntmps24
            go_wp2_with fail
            refine HL.out.mono ?_
            rintro e w' ⟨rfl, rfl⟩
            go_wp2_with fail
            refine HT.out.mono ?_
            rintro e w' ⟨rfl, rfl⟩
            go_wp2_with fail
            refine H0.out.mono ?_
            rintro e w' ⟨rfl, rfl⟩
            go_wp2_with fail
            refine H1.out.mono ?_
            rintro e w' ⟨rfl, rfl⟩
            go_wp2
            all_goals go_ret
            all_goals refine ⟨ret_bool ?_, rfl⟩
            all_goals rw [HR.out]
            all_goals simp only [low2, top1]
            all_goals (first | (simp; done) | (simp; omega) | (split <;> split <;> simp <;> omega) | (repeat' split) <;> simp <;> omega)
          · go_enter Try.func24, Try.ntmps24
            go_wp2_with fail
            refine HL.out.mono ?_
            rintro e w' ⟨rfl, rfl⟩
            go_wp2_with fail
            refine HT.out.mono ?_
            rintro e w' ⟨rfl, rfl⟩
            go_wp2_with fail
            refine H0.out.mono ?_
            rintro e w' ⟨rfl, rfl⟩
            go_wp2_with fail
            refine H1.out.mono ?_
            rintro e w' ⟨rfl, rfl⟩
            go_wp2
            all_goals go_ret
            all_goals refine ⟨ret_bool ?_, rfl⟩
            all_goals rw [HR.out]
            all_goals simp only [low2, top1]
            all_goals (first | (simp; done) | (simp; omega) | (split <;> split <;> simp <;> omega) | (repeat' split) <;> simp <;> omega)
        · go_enter Try.func24, Try.ntmps24
          go_wp2_with fail
          refine HL.out.mono ?_
          rintro e w' ⟨rfl, rfl⟩
          go_wp2_with fail
          refine HT.out.mono ?_
          rintro e w' ⟨rfl, rfl⟩
          go_wp2_with fail
          refine H0.out.mono ?_
          rintro e w' ⟨rfl, rfl⟩
          go_wp2_with fail
          refine H1.out.mono ?_
          rintro e w' ⟨rfl, rfl⟩
          go_wp2
          all_goals go_ret
          all_goals refine ⟨ret_bool ?_, rfl⟩
          all_goals rw [HR.out]
          all_goals simp only [low2, top1]
          all_goals (first | (simp; done) | (simp; omega) | (split <;> split <;> simp <;> omega) | (repeat' split) <;> simp <;> omega)
  · rw [if_pos e] at hfr
    subst hfr
    have p2 : ((m : Int) == 2) = true := by simp; omega
    clear e
    by_cases hlo : x < 128
    · rw [if_pos hlo] at hl1
      subst hl1
      by_cases hto : 1114111 < y
      · go_enter Try.func24, Try.ntmps24
        go_wp2_with fail
        refine HL.out.mono ?_
        rintro e w' ⟨rfl, rfl⟩
        go_wp2_with fail
        refine HT.out.mono ?_
        rintro e w' ⟨rfl, rfl⟩
        go_wp2_with fail
        refine H0.out.mono ?_
        rintro e w' ⟨rfl, rfl⟩
        go_wp2_with fail
        refine H1.out.mono ?_
        rintro e w' ⟨rfl, rfl⟩
        go_wp2
        all_goals go_ret
        all_goals refine ⟨ret_bool ?_, rfl⟩
        all_goals rw [HR.out]
        all_goals simp only [low2, top1]
        all_goals (first | (simp; done) | (simp; omega) | (split <;> split <;> simp <;> omega) | (repeat' split) <;> simp <;> omega)
      · go_enter Try.func24, Try.ntmps24
        go_wp2_with fail
        refine HL.out.mono ?_
        rintro e w' ⟨rfl, rfl⟩
        go_wp2_with fail
        refine HT.out.mono ?_
        rintro e w' ⟨rfl, rfl⟩
        go_wp2_with fail
        refine H0.out.mono ?_
        rintro e w' ⟨rfl, rfl⟩
        go_wp2_with fail
        refine H1.out.mono ?_
        rintro e w' ⟨rfl, rfl⟩
        go_wp2
        all_goals go_ret
        all_goals refine ⟨ret_bool ?_, rfl⟩
        all_goals rw [HR.out]
        all_goals simp only [low2, top1]
        all_goals (first | (simp; done) | (simp; omega) | (split <;> split <;> simp <;> omega) | (repeat' split) <;> simp <;> omega)
    · rw [if_neg hlo] at hl1
      subst hl1
      by_cases hto : 1114111 < y
      · by_cases hr1 : 55296 ≤ x
        · by_cases hr2 : x ≤ 57343
          · go_enter Try.func24, Try.ntmps24
            go_wp2_with fail
            refine HL.out.mono ?_
            rintro e w' ⟨rfl, rfl⟩
            go_wp2_with fail
            refine HT.out.mono ?_
            rintro e w' ⟨rfl, rfl⟩
            go_wp2_with fail
            refine H0.out.mono ?_
            rintro e w' ⟨rfl, rfl⟩
            go_wp2_with fail
            refine H1.out.mono ?_
            rintro e w' ⟨rfl, rfl⟩
            go_wp2
            all_goals go_ret
            all_goals refine ⟨ret_bool ?_, rfl⟩
            all_goals rw [HR.out]
            all_goals simp only [low2, top1]
            all_goals (first | (simp; done) | (simp; omega) | (split <;> split <;> simp <;> omega) | (repeat' split) <;> simp <;> omega)
          · go_enter Try.func24, Try.ntmps24
            go_wp2_with fail
            refine HL.out.mono ?_
            rintro e w' ⟨rfl, rfl⟩
            go_wp2_with fail
            refine HT.out.mono ?_
            rintro e w' ⟨rfl, rfl⟩
            go_wp2_with fail
            refine H0.out.mono ?_
            rintro e w' ⟨rfl, rfl⟩
            go_wp2_with fail
            refine H1.out.mono ?_
            rintro e w' ⟨rfl, rfl⟩
            go_wp2
            all_goals go_ret
            all_goals refine ⟨ret_bool ?_, rfl⟩
            all_goals rw [HR.out]
            all_goals simp only [low2, top1]
            all_goals (first | (simp; done) | (simp; omega) | (split <;> split <;> simp <;> omega) | (repeat' split) <;> simp <;> omega)
        · go_enter Try.func24, Try.ntmps24
          go_wp2_with fail
          refine HL.out.mono ?_
          rintro e w' ⟨rfl, rfl⟩
          go_wp2_with fail
          refine HT.out.mono ?_
          rintro e w' ⟨rfl, rfl⟩
          go_wp2_with fail
          refine H0.out.mono ?_
          rintro e w' ⟨rfl, rfl⟩
          go_wp2_with fail
          refine H1.out.mono ?_
          rintro e w' ⟨rfl, rfl⟩
          go_wp2
          all_goals go_ret
          all_goals refine ⟨ret_bool ?_, rfl⟩
          all_goals rw [HR.out]
          all_goals simp only [low2, top1]
          all_goals (first | (simp; done) | (simp; omega) | (split <;> split <;> simp <;> omega) | (repeat' split) <;> simp <;> omega)
      · by_cases hr1 : 55296 ≤ x
        · by_cases hr2 : x ≤ 57343
          · go_enter Try.func24, Try.ntmps24
            go_wp2_with fail
            refine HL.out.mono ?_
            rintro e w' ⟨rfl, rfl⟩
            go_wp2_with fail
            refine HT.out.mono ?_
            rintro e w' ⟨rfl, rfl⟩
            go_wp2_with fail
            refine H0.out.mono ?_
            rintro e w' ⟨rfl, rfl⟩
            go_wp2_with fail
            refine H1.out.mono ?_
            rintro e w' ⟨rfl, rfl⟩
            go_wp2
            all_goals go_ret
            all_goals refine ⟨ret_bool ?_, rfl⟩
            all_goals rw [HR.out]
            all_goals simp only [low2, top1]
            all_goals (first | (simp; done) | (simp; omega) | (split <;> split <;> simp <;> omega) | (repeat' split) <;> simp <;> omega)
          · go_enter Try.func24, Try.ntmps24
            go_wp2_with fail
            refine HL.out.mono ?_
            rintro e w' ⟨rfl, rfl⟩
            go_wp2_with fail
            refine HT.out.mono ?_
            rintro e w' ⟨rfl, rfl⟩
            go_wp2_with fail
            refine H0.out.mono ?_
            rintro e w' ⟨rfl, rfl⟩
            go_wp2_with fail
            refine H1.out.mono ?_
            rintro e w' ⟨rfl, rfl⟩
            go_wp2
            all_goals go_ret
            all_goals refine ⟨ret_bool ?_, rfl⟩
            all_goals rw [HR.out]
            all_goals simp only [low2, top1]
            all_goals (first | (simp; done) | (simp; omega) | (split <;> split <;> simp <;> omega) | (repeat' split) <;> simp <;> omega)
        · go_enter Try.func24, Try.ntmps24
          go_wp2_with fail
          refine HL.out.mono ?_
          rintro e w' ⟨rfl, rfl⟩
          go_wp2_with fail
          refine HT.out.mono ?_
          rintro e w' ⟨rfl, rfl⟩
          go_wp2_with fail
          refine H0.out.mono ?_
          rintro e w' ⟨rfl, rfl⟩
          go_wp2_with fail
          refine H1.out.mono ?_
          rintro e w' ⟨rfl, rfl⟩
          go_wp2
          all_goals go_ret
          all_goals refine ⟨ret_bool ?_, rfl⟩
          all_goals rw [HR.out]
          all_goals simp only [low2, top1]
          all_goals (first | (simp; done) | (simp; omega) | (split <;> split <;> simp <;> omega) | (repeat' split) <;> simp <;> omega)
  · rw [if_neg (by omega), if_pos e] at hfr
    subst hfr
    have p2 : ((m : Int) == 2) = false := by simp; omega
    have p3 : ((m : Int) == 3) = true := by simp; omega
    clear e
    by_cases hlo : x < 2048
    · rw [if_pos hlo] at hl1
      subst hl1
      by_cases hto : 1114111 < y
      · go_enter Try.func24, Try.ntmps24
        go_wp2_with fail
        refine HL.out.mono ?_
        rintro e w' ⟨rfl, rfl⟩
        go_wp2_with fail
        refine HT.out.mono ?_
        rintro e w' ⟨rfl, rfl⟩
        go_wp2_with fail
        refine H0.out.mono ?_
        rintro e w' ⟨rfl, rfl⟩
        go_wp2_with fail
        refine H1.out.mono ?_
        rintro e w' ⟨rfl, rfl⟩
        go_wp2
        all_goals go_ret
        all_goals refine ⟨ret_bool ?_, rfl⟩
        all_goals rw [HR.out]
        all_goals simp only [low2, top1]
        all_goals (first | (simp; done) | (simp; omega) | (split <;> split <;> simp <;> omega) | (repeat' split) <;> simp <;> omega)
      · go_enter Try.func24, Try.ntmps24
        go_wp2_with fail
        refine HL.out.mono ?_
        rintro e w' ⟨rfl, rfl⟩
        go_wp2_with fail
        refine HT.out.mono ?_
        rintro e w' ⟨rfl, rfl⟩
        go_wp2_with fail
        refine H0.out.mono ?_
        rintro e w' ⟨rfl, rfl⟩
        go_wp2_with fail
        refine H1.out.mono ?_
        rintro e w' ⟨rfl, rfl⟩
        go_wp2
        all_goals go_ret
        all_goals refine ⟨ret_bool ?_, rfl⟩
        all_goals rw [HR.out]
        all_goals simp only [low2, top1]
        all_goals (first | (simp; done) | (simp; omega) | (split <;> split <;> simp <;> omega) | (repeat' split) <;> simp <;> omega)
    · rw [if_neg hlo] at hl1
      subst hl1
      by_cases hto : 1114111 < y
      · by_cases hr1 : 55296 ≤ x
        · by_cases hr2 : x ≤ 57343
          · go_enter Try.func24, Try.ntmps24
            go_wp2_with fail
            refine HL.out.mono ?_
            rintro e w' ⟨rfl, rfl⟩
            go_wp2_with fail
            refine HT.out.mono ?_
            rintro e w' ⟨rfl, rfl⟩
            go_wp2_with fail
            refine H0.out.mono ?_
            rintro e w' ⟨rfl, rfl⟩
            go_wp2_with fail
            refine H1.out.mono ?_
            rintro e w' ⟨rfl, rfl⟩
            go_wp2
            all_goals go_ret
            all_goals refine ⟨ret_bool ?_, rfl⟩
            all_goals rw [HR.out]
            all_goals simp only [low2, top1]
            all_goals (first | (simp; done) | (simp; omega) | (split <;> split <;> simp <;> omega) | (repeat' split) <;> simp <;> omega)
          · go_enter Try.func24, Try.ntmps24
            go_wp2_with fail
            refine HL.out.mono ?_
            rintro e w' ⟨rfl, rfl⟩
            go_wp2_with fail
            refine HT.out.mono ?_
            rintro e w' ⟨rfl, rfl⟩
            go_wp2_with fail
            refine H0.out.mono ?_
            rintro e w' ⟨rfl, rfl⟩
            go_wp2_with fail
            refine H1.out.mono ?_
            rintro e w' ⟨rfl, rfl⟩
            go_wp2
            all_goals go_ret
            all_goals refine ⟨ret_bool ?_, rfl⟩
            all_goals rw [HR.out]
            all_goals simp only [low2, top1]
            all_goals (first | (simp; done) | (simp; omega) | (split <;> split <;> simp <;> omega) | (repeat' split) <;> simp <;> omega)
        · go_enter Try.func24, Try.ntmps24
          go_wp2_with fail
          refine HL.out.mono ?_
          rintro e w' ⟨rfl, rfl⟩
          go_wp2_with fail
          refine HT.out.mono ?_
          rintro e w' ⟨rfl, rfl⟩
          go_wp2_with fail
          refine H0.out.mono ?_
          rintro e w' ⟨rfl, rfl⟩
          go_wp2_with fail
          refine H1.out.mono ?_
          rintro e w' ⟨rfl, rfl⟩
          go_wp2
          all_goals go_ret
          all_goals refine ⟨ret_bool ?_, rfl⟩
          all_goals rw [HR.out]
          all_goals simp only [low2, top1]
          all_goals (first | (simp; done) | (simp; omega) | (split <;> split <;> simp <;> omega) | (repeat' split) <;> simp <;> omega)
      · by_cases hr1 : 55296 ≤ x
        · by_cases hr2 : x ≤ 57343
          · go_enter Try.func24, Try.ntmps24
            go_wp2_with fail
            refine HL.out.mono ?_
            rintro e w' ⟨rfl, rfl⟩
            go_wp2_with fail
            refine HT.out.mono ?_
            rintro e w' ⟨rfl, rfl⟩
            go_wp2_with fail
            refine H0.out.mono ?_
            rintro e w' ⟨rfl, rfl⟩
            go_wp2_with fail
            refine H1.out.mono ?_
            rintro e w' ⟨rfl, rfl⟩
            go_wp2
            all_goals go_ret
            all_goals refine ⟨ret_bool ?_, rfl⟩
            all_goals rw [HR.out]
            all_goals simp only [low2, top1]
            all_goals (first | (simp; done) | (simp; omega) | (split <;> split <;> simp <;> omega) | (repeat' split) <;> simp <;> omega)
          · go_enter Try.func24, Try.ntmps24
            go_wp2_with fail
            refine HL.out.mono ?_
            rintro e w' ⟨rfl, rfl⟩
            go_wp2_with fail
            refine HT.out.mono ?_
            rintro e w' ⟨rfl, rfl⟩
            go_wp2_with fail
            refine H0.out.mono ?_
            rintro e w' ⟨rfl, rfl⟩
            go_wp2_with fail
            refine H1.out.mono ?_
            rintro e w' ⟨rfl, rfl⟩
            go_wp2
            all_goals go_ret
            all_goals refine ⟨ret_bool ?_, rfl⟩
            all_goals rw [HR.out]
            all_goals simp only [low2, top1]
            all_goals (first | (simp; done) | (simp; omega) | (split <;> split <;> simp <;> omega) | (repeat' split) <;> simp <;> omega)
        · go_enter Try.func24, Try.ntmps24
          go_wp2_with fail
          refine HL.out.mono ?_
          rintro e w' ⟨rfl, rfl⟩
          go_wp2_with fail
          refine HT.out.mono ?_
          rintro e w' ⟨rfl, rfl⟩
          go_wp2_with fail
          refine H0.out.mono ?_
          rintro e w' ⟨rfl, rfl⟩
          go_wp2_with fail
          refine H1.out.mono ?_
          rintro e w' ⟨rfl, rfl⟩
          go_wp2
          all_goals go_ret
          all_goals refine ⟨ret_bool ?_, rfl⟩
          all_goals rw [HR.out]
          all_goals simp only [low2, top1]
          all_goals (first | (simp; done) | (simp; omega) | (split <;> split <;> simp <;> omega) | (repeat' split) <;> simp <;> omega)
  · rw [if_neg (by omega), if_neg (by omega), if_pos e] at hfr
    subst hfr
    have p2 : ((m : Int) == 2) = false := by simp; omega
    have p3 : ((m : Int) == 3) = false := by simp; omega
    have p4 : ((m : Int) == 4) = true := by simp; omega
    clear e
    by_cases hlo : x < 65536
    · rw [if_pos hlo] at hl1
      subst hl1
      by_cases hto : 1114111 < y
      · go_enter Try.func24, Try.ntmps24
        go_wp2_with fail
        refine HL.out.mono ?_
        rintro e w' ⟨rfl, rfl⟩
        go_wp2_with fail
        refine HT.out.mono ?_
        rintro e w' ⟨rfl, rfl⟩
        go_wp2_with fail
        refine H0.out.mono ?_
        rintro e w' ⟨rfl, rfl⟩
        go_wp2_with fail
        refine H1.out.mono ?_
        rintro e w' ⟨rfl, rfl⟩
        go_wp2
        all_goals go_ret
        all_goals refine ⟨ret_bool ?_, rfl⟩
        all_goals rw [HR.out]
        all_goals simp only [low2, top1]
        all_goals (first | (simp; done) | (simp; omega) | (split <;> split <;> simp <;> omega) | (repeat' split) <;> simp <;> omega)
      · go_enter Try.func24, Try.ntmps24
        go_wp2_with fail
        refine HL.out.mono ?_
        rintro e w' ⟨rfl, rfl⟩
        go_wp2_with fail
        refine HT.out.mono ?_
        rintro e w' ⟨rfl, rfl⟩
        go_wp2_with fail
        refine H0.out.mono ?_
        rintro e w' ⟨rfl, rfl⟩
        go_wp2_with fail
        refine H1.out.mono ?_
        rintro e w' ⟨rfl, rfl⟩
        go_wp2
        all_goals go_ret
        all_goals refine ⟨ret_bool ?_, rfl⟩
        all_goals rw [HR.out]
        all_goals simp only [low2, top1]
        all_goals (first | (simp; done) | (simp; omega) | (split <;> split <;> simp <;> omega) | (repeat' split) <;> simp <;> omega)
    · rw [if_neg hlo] at hl1
      subst hl1
      by_cases hto : 1114111 < y
      · go_enter Try.func24, Try.ntmps24
        go_wp2_with fail
        refine HL.out.mono ?_
        rintro e w' ⟨rfl, rfl⟩
        go_wp2_with fail
        refine HT.out.mono ?_
        rintro e w' ⟨rfl, rfl⟩
        go_wp2_with fail
        refine H0.out.mono ?_
        rintro e w' ⟨rfl, rfl⟩
        go_wp2_with fail
        refine H1.out.mono ?_
        rintro e w' ⟨rfl, rfl⟩
        go_wp2
        all_goals go_ret
        all_goals refine ⟨ret_bool ?_, rfl⟩
        all_goals rw [HR.out]
        all_goals simp only [low2, top1]
        all_goals (first | (simp; done) | (simp; omega) | (split <;> split <;> simp <;> omega) | (repeat' split) <;> simp <;> omega)
      · go_enter Try.func24, Try.ntmps24
        go_wp2_with fail
        refine HL.out.mono ?_
        rintro e w' ⟨rfl, rfl⟩
        go_wp2_with fail
        refine HT.out.mono ?_
        rintro e w' ⟨rfl, rfl⟩
        go_wp2_with fail
        refine H0.out.mono ?_
        rintro e w' ⟨rfl, rfl⟩
        go_wp2_with fail
        refine H1.out.mono ?_
        rintro e w' ⟨rfl, rfl⟩
        go_wp2
        all_goals go_ret
        all_goals refine ⟨ret_bool ?_, rfl⟩
        all_goals rw [HR.out]
        all_goals simp only [low2, top1]
        all_goals (first | (simp; done) | (simp; omega) | (split <;> split <;> simp <;> omega) | (repeat' split) <;> simp <;> omega)

end Go.Proofs.Ytignohjphblpdaa
