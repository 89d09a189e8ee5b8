/-
  The contract of fascialaw01.awake: the chapter's examples answer true.
-/
import Derived.Test.YteggchjehfkppaaLow
import Derived.Test.YteggchjehfkppaaUtfB
namespace Go.Proofs.Yteggchjehfkppaa
open Go.RowKit Utf

/-- a slice that is handed back, with its cells; what lay before lies as it lay -/
def OutRow (n : Nat) (xs : List Value) (w : World) (e : Ending) (w' : World) : Prop :=
  ∃ A c, e = .returned (.slice A n c) ∧ n ≤ c ∧ Row w' w'.heap.size A xs ∧ Below w.heap.size w w'

theorem own_form {w : World} {base : Nat} {e : TypeId} {size n : Nat} {v : Value} {xs : List Value} (h : w.ownsRow base e size v n xs) : ∃ A c, v = .slice A n c ∧ n ≤ c ∧ Row w w.heap.size A xs := by
  rcases h.2 with ⟨rfl, rfl⟩ | ⟨g, cap, cur, rfl, _, _, hc, _⟩
  · exact ⟨none, 0, rfl, by omega, .of_own h⟩
  · exact ⟨_, cap, rfl, hc, .of_own h⟩

theorem stepB {w1 w2 : World} {o : Obj} (h : Below (w1.alloc o).heap.size (w1.alloc o) w2) : Below w1.heap.size w1 w2 :=
  ((Below.refl _ w1).alloc (Nat.le_refl _) o).trans (h.mono (by simp))
theorem Row.go {w1 w2 : World} {A : Option Addr} {xs : List Value} (h : Row w1 w1.heap.size A xs) (hb : Below w1.heap.size w1 w2) : Row w2 w2.heap.size A xs := (h.below hb).mono hb.size
theorem upB {w w1 w2 : World} (h : Below w.heap.size w w1) (k : Below w1.heap.size w1 w2) : Below w.heap.size w w2 := h.trans (k.mono h.size)
theorem Row.up {w : World} {A : Option Addr} {xs : List Value} (h : Row w w.heap.size A xs) (o : Obj) : Row (w.alloc o) (w.alloc o).heap.size A xs := h.go ((Below.refl _ w).alloc (Nat.le_refl _) o)

theorem Codes_out (bs : List Int) (A : Option Addr) (len cap : Nat) (w : World) (hlen : bs.length = len) (hcap : len ≤ cap) (hm : len ≤ 100000) (hbyt : Byt bs) (hr : Row w w.heap.size A (cl .u8 bs)) :
    Calls Try.prog 13 #[.slice A len cap] w (OutRow (codes bs).length (c3 ((codes bs).map tri)) w) :=
  (Codes_any bs A len cap w hlen hcap hm hbyt hr).mono fun _ _ ⟨v, he, ho, hB⟩ => by
    obtain ⟨A, c, rfl, hc, hr⟩ := own_form ho
    exact ⟨A, c, he, hc, by rw [← cdc_c3]; exact hr, hB⟩
theorem Decode_out (bs : List Int) (A : Option Addr) (len cap : Nat) (w : World) (hlen : bs.length = len) (hcap : len ≤ cap) (hm : len ≤ 100000) (hbyt : Byt bs) (hr : Row w w.heap.size A (cl .u8 bs)) :
    Calls Try.prog 16 #[.slice A len cap] w (OutRow (dec bs).length (cl .i32 (dec bs)) w) :=
  (Decode_any bs A len cap w hlen hcap hm hbyt hr).mono fun _ _ ⟨v, he, ho, hB⟩ => by
    obtain ⟨A, c, rfl, hc, hr⟩ := own_form ho
    exact ⟨A, c, he, hc, hr, hB⟩
theorem Encode_out (l : List Int) (A : Option Addr) (n c : Nat) (w : World) (hn : l.length = n) (hm : n ≤ 100000) (hr : Row w w.heap.size A (cl .i32 l)) :
    Calls Try.prog 19 #[.slice A n c] w (OutRow (enc l).length (cl .u8 (enc l)) w) :=
  (Encode_any l A n c w hn hm hr).mono fun _ _ ⟨v, he, ho, hB⟩ => by
    obtain ⟨A, c, rfl, hc, hr⟩ := own_form ho
    exact ⟨A, c, he, hc, hr, hB⟩

theorem row_new' (w : World) (cs : Array Value) (t : TypeId) (news : List Value) (h : cs.toList = news) : Row (w.alloc (.cells cs t)) (w.alloc (.cells cs t)).heap.size (some ⟨w.heap.size, 0, none⟩) news := by
  rw [World.size_alloc]
  exact row_new w cs t news h

theorem byt_of (l : List Int) (h : l.all (fun x => decide (0 ≤ x ∧ x ≤ 255)) = true) : Byt l := fun x hx => by
  have := List.all_eq_true.1 h x hx
  simpa using this

theorem aw1 : codes [226, 130, 172] = [(8364, 0, 3, true)] := by decide +kernel
theorem aw2 : codes [226, 130, 65] = [(65533, 0, 2, false), (65, 2, 3, true)] := by decide +kernel
theorem aw3 : dec [240, 128] = [65533, 65533] := by decide +kernel
theorem aw4 : dec [237, 160, 128] = [65533, 65533, 65533] := by decide +kernel
theorem aw5 : enc [55296] = [239, 191, 189] := by decide +kernel

set_option maxHeartbeats 2000000 in
theorem awake_any (w : World) : Calls Try.prog 9 #[] w (IsBool true w) := by
  go_enter Try.func9, Try.ntmps9
  go_wp2_with fail
  refine (Codes_out [226, 130, 172] _ 3 3 _ rfl (by omega) (by omega) (byt_of _ (by decide)) (row_new' w _ _ _ rfl)).mono ?_
  rw [aw1]
  rintro e w1 ⟨A1, c1, rfl, hc1, hr1, hB1⟩
  have hW1 := stepB hB1
  clear hB1 hc1
  go_wp2_with fail
  refine (Codes_out [226, 130, 65] _ 3 3 _ rfl (by omega) (by omega) (byt_of _ (by decide)) (row_new' w1 _ _ _ rfl)).mono ?_
  rw [aw2]
  rintro e w2 ⟨A2, c2, rfl, hc2, hr2, hB2⟩
  have hW2 := upB hW1 (stepB hB2)
  replace hr1 := hr1.go (stepB hB2)
  clear hB2 hc2 hW1
  go_wp2_with fail
  refine (same_any [(8364, 0, 3)] [(8364, 0, 3)] _ _ 1 1 _ _ _ rfl rfl (by omega) (by omega) (hr1.up _) (row_new' w2 _ _ _ rfl)).mono ?_
  rintro e w3 ⟨rfl, hB3⟩
  have hW3 := upB hW2 (stepB hB3)
  replace hr2 := hr2.go (stepB hB3)
  clear hB3 hr1 hW2
  go_wp2_with fail
  refine (same_any [(65533, 0, 2), (65, 2, 3)] [(65533, 0, 2), (65, 2, 3)] _ _ 2 2 _ _ _ rfl rfl (by omega) (by omega) (hr2.up _) (row_new' w3 _ _ _ rfl)).mono ?_
  rintro e w4 ⟨rfl, hB4⟩
  have hW4 := upB hW3 (stepB hB4)
  clear hB4 hr2 hW3
  go_wp2_with fail
  refine (Decode_out [240, 128] _ 2 2 _ rfl (by omega) (by omega) (byt_of _ (by decide)) (row_new' w4 _ _ _ rfl)).mono ?_
  rw [aw3]
  rintro e w5 ⟨A5, c5, rfl, _, _, hB5⟩
  have hW5 := upB hW4 (stepB hB5)
  clear hB5 hW4
  go_wp2_with fail
  refine (Decode_out [237, 160, 128] _ 3 3 _ rfl (by omega) (by omega) (byt_of _ (by decide)) (row_new' w5 _ _ _ rfl)).mono ?_
  rw [aw4]
  rintro e w6 ⟨A6, c6, rfl, _, _, hB6⟩
  have hW6 := upB hW5 (stepB hB6)
  clear hB6 hW5
  go_wp2_with fail
  refine (Encode_out [55296] _ 1 1 _ rfl (by omega) (row_new' w6 _ _ _ rfl)).mono ?_
  rw [aw5]
  rintro e w7 ⟨A7, c7, rfl, _, hr7, hB7⟩
  have hW7 := upB hW6 (stepB hB7)
  clear hB7 hW6
  go_wp2_with fail
  refine (Same_any [239, 191, 189] [239, 191, 189] _ _ 3 3 _ _ _ rfl rfl (byt_of _ (by decide)) (byt_of _ (by decide)) (hr7.up _) (row_new' w7 _ _ _ rfl)).mono ?_
  rintro e w8 ⟨rfl, hB8⟩
  have hW8 := upB hW7 (stepB hB8)
  clear hB8 hW7
  go_wp2
  go_ret
  exact ⟨rfl, hW8⟩

end Go.Proofs.Yteggchjehfkppaa
