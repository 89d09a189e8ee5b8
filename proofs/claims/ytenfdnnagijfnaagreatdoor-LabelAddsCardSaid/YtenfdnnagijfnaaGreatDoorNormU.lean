/-
  norm: the contracts once more, for rows as they come; awake.
-/
import Derived.Test.YtenfdnnagijfnaaGreatDoorNormT
namespace Go.Proofs.YtenfdnnagijfnaaGreatDoor
open Go.RowKit Norm

def RowN (w : World) (n : Nat) (l : List Int) (e : Ending) (w' : World) : Prop := ∃ A c, e = .returned (.slice A n c) ∧ Row w' w'.heap.size A (cl .i32 l) ∧ Below w.heap.size w w'
theorem Split_row (r : Int) (l : List Int) (n : Nat) (w : World) (h0 : -2147483648 ≤ r ∧ r ≤ 2147483647) (h : full r = l) (hn : l.length = n) : Calls Tryz.prog 17 #[.int .i32 r] w (RowN w n l) :=
  (Split_any r w h0.1 h0.2).mono fun _ _ ⟨v, he, ho, hb⟩ => by
    subst h
    rw [Nat.zero_add, List.nil_append] at ho
    obtain ⟨A, c, rfl⟩ := own_shape ho
    rw [show (cl .i32 (full r)).length = n from by rw [← hn]; simp [cl]] at he ho
    exact ⟨A, c, he, Row.of_own ho, hb⟩
theorem NFD_row (N : Nat) (hN : StableOk N) (l m : List Int) (A : Option Addr) (k cap n : Nat) (w : World) (hk : l.length = k) (hl : k ≤ 4000) (hC : C32 l) (hr : Row w w.heap.size A (cl .i32 l)) (hR : Runs N (dec l)) (h : nfd l = m) (hn : m.length = n) :
    Calls Tryz.prog 19 #[.slice A k cap] w (RowN w n m) := by
  subst hk
  subst h
  subst hn
  exact (NFD_any N hN l A cap w hl hC hr hR).mono fun _ _ ⟨A, c, he, ho, hb⟩ => ⟨A, c, he, Row.of_own ho, hb⟩
theorem NFC_row (N : Nat) (hN : StableOk N) (l m : List Int) (A : Option Addr) (k cap n : Nat) (w : World) (hk : l.length = k) (hl : k ≤ 4000) (hC : C32 l) (hr : Row w w.heap.size A (cl .i32 l)) (hR : Runs N (dec l)) (h : nfc l = m) (hn : m.length = n) :
    Calls Tryz.prog 22 #[.slice A k cap] w (RowN w n m) := by
  subst hk
  subst h
  subst hn
  exact (NFC_any N hN l A cap w hl hC hr hR).mono fun _ _ ⟨g, c, he, ho, hb⟩ => ⟨_, c, he, Row.of_own ho, hb⟩
theorem Join_is (a b : Int) (o : Option Int) (w : World) (ha : -2147483648 ≤ a ∧ a ≤ 2147483647) (hb : -2147483648 ≤ b ∧ b ≤ 2147483647) (h : jn a b = o) : Calls Tryz.prog 14 #[.int .i32 a, .int .i32 b] w (Tells (.tuple #[.int .i32 (o.getD 0), .bool o.isSome]) w) := by
  subst h
  exact Join_any a b w (of_wf32 ha) (of_wf32 hb)
theorem row_f (A : Option Addr) (n c : Nat) (w : World) : Calls Tryz.prog 32 #[.slice A n c] w (Gives (.slice A n c) w) := by
  go_enter Tryz.func32, Tryz.ntmps32
  go_wp2
  go_ret
  exact ⟨rfl, rfl⟩
theorem dec_short {l : List Int} (h : l.length ≤ 3) : Runs 19 (dec l) := runs_short (by have := dec_len l; omega)

theorem aw1 : jn 117 776 = some 252 := by decide +kernel
theorem aw2 : full 472 = [117, 776, 769] := by decide +kernel
theorem aw3 : nfd [233, 803] = [101, 803, 769] := by decide +kernel
theorem aw4 : nfc [101, 769, 803] = [233, 803] := by decide +kernel
theorem aw5 : nfc [4352, 4449, 4520] = [44033] := by decide +kernel
theorem aw6 : nfc [9001] = [12296] := by decide +kernel
theorem aw7 : nfc [0] = [0] := by decide +kernel

theorem stepB {w1 w2 : World} {o : Obj} (h : Below (w1.alloc o).heap.size (w1.alloc o) w2) : Below w1.heap.size w1 w2 := below_past o h
theorem upB {w w1 w2 : World} (h : Below w.heap.size w w1) (k : Below w1.heap.size w1 w2) : Below w.heap.size w w2 := h.trans (k.mono h.size)
theorem row_new' (w : World) (cs : Array Value) (t : TypeId) (news : List Value) (h : cs.toList = news) : Row (w.alloc (.cells cs t)) (w.alloc (.cells cs t)).heap.size (some ⟨w.heap.size, 0, none⟩) news := by
  rw [World.size_alloc]
  exact row_new w cs t news h
theorem upA (w : World) (o : Obj) : Below w.heap.size w (w.alloc o) := (Below.refl _ w).alloc (Nat.le_refl _) o

set_option maxHeartbeats 4000000 in
set_option maxRecDepth 100000 in
theorem awake_any (w : World) : Calls Tryz.prog 13 #[] w (IsB true w) := by
  go_enter Tryz.func13, Tryz.ntmps13
  go_wp2_with fail
  refine (Join_is 117 776 _ _ (by omega) (by omega) aw1).mono ?_
  rintro e w1 ⟨rfl, hW1⟩
  go_wp2_with fail
  refine (Split_row 472 _ 3 _ (by omega) aw2 rfl).mono ?_
  rintro e w2 ⟨A2, c2, rfl, hr2, hB2⟩
  have hW2 := upB hW1 hB2
  clear hB2 hW1
  go_wp2_with fail
  refine (row_f _ _ _ _).mono ?_
  rintro e w3 ⟨rfl, rfl⟩
  go_wp2_with fail
  refine (Same_any [117, 776, 769] [117, 776, 769] _ _ 3 3 _ _ _ rfl rfl (by omega) (by omega) (hr2.up (upA w2 _)) (row_new' w2 _ _ _ rfl)).mono ?_
  rintro e w4 ⟨rfl, hB4⟩
  have hW4 := upB (hW2.trans ((upA w2 _).mono hW2.size)) hB4
  clear hB4 hW2 hr2
  go_wp2_with fail
  refine (row_f _ _ _ _).mono ?_
  rintro e w5 ⟨rfl, rfl⟩
  go_wp2_with fail
  refine (NFD_row 19 stable19 [233, 803] [101, 803, 769] _ 2 _ 3 _ rfl (by omega) (by decide) (row_new' w4 _ _ _ rfl) (dec_short (by simp)) aw3 rfl).mono ?_
  rintro e w6 ⟨A6, c6, rfl, hr6, hB6⟩
  have hW6 := upB hW4 (stepB hB6)
  clear hB6 hW4
  go_wp2_with fail
  refine (row_f _ _ _ _).mono ?_
  rintro e w7 ⟨rfl, rfl⟩
  go_wp2_with fail
  refine (Same_any [101, 803, 769] [101, 803, 769] _ _ 3 3 _ _ _ rfl rfl (by omega) (by omega) (hr6.up (upA w6 _)) (row_new' w6 _ _ _ rfl)).mono ?_
  rintro e w8 ⟨rfl, hB8⟩
  have hW8 := upB hW6 (stepB hB8)
  clear hB8 hW6 hr6
  go_wp2_with fail
  refine (row_f _ _ _ _).mono ?_
  rintro e w9 ⟨rfl, rfl⟩
  go_wp2_with fail
  refine (NFC_row 19 stable19 [101, 769, 803] [233, 803] _ 3 _ 2 _ rfl (by omega) (by decide) (row_new' w8 _ _ _ rfl) (dec_short (by simp)) aw4 rfl).mono ?_
  rintro e w10 ⟨A10, c10, rfl, hr10, hB10⟩
  have hW10 := upB hW8 (stepB hB10)
  clear hB10 hW8
  go_wp2_with fail
  refine (row_f _ _ _ _).mono ?_
  rintro e w11 ⟨rfl, rfl⟩
  go_wp2_with fail
  refine (Same_any [233, 803] [233, 803] _ _ 2 2 _ _ _ rfl rfl (by omega) (by omega) (hr10.up (upA w10 _)) (row_new' w10 _ _ _ rfl)).mono ?_
  rintro e w12 ⟨rfl, hB12⟩
  have hW12 := upB hW10 (stepB hB12)
  clear hB12 hW10 hr10
  go_wp2_with fail
  refine (row_f _ _ _ _).mono ?_
  rintro e w13 ⟨rfl, rfl⟩
  go_wp2_with fail
  refine (NFC_row 19 stable19 [4352, 4449, 4520] [44033] _ 3 _ 1 _ rfl (by omega) (by decide) (row_new' w12 _ _ _ rfl) (dec_short (by simp)) aw5 rfl).mono ?_
  rintro e w14 ⟨A14, c14, rfl, hr14, hB14⟩
  have hW14 := upB hW12 (stepB hB14)
  clear hB14 hW12
  go_wp2_with fail
  refine (row_f _ _ _ _).mono ?_
  rintro e w15 ⟨rfl, rfl⟩
  go_wp2_with fail
  refine (Same_any [44033] [44033] _ _ 1 1 _ _ _ rfl rfl (by omega) (by omega) (hr14.up (upA w14 _)) (row_new' w14 _ _ _ rfl)).mono ?_
  rintro e w16 ⟨rfl, hB16⟩
  have hW16 := upB hW14 (stepB hB16)
  clear hB16 hW14 hr14
  go_wp2_with fail
  refine (row_f _ _ _ _).mono ?_
  rintro e w17 ⟨rfl, rfl⟩
  go_wp2_with fail
  refine (NFC_row 19 stable19 [9001] [12296] _ 1 _ 1 _ rfl (by omega) (by decide) (row_new' w16 _ _ _ rfl) (dec_short (by simp)) aw6 rfl).mono ?_
  rintro e w18 ⟨A18, c18, rfl, hr18, hB18⟩
  have hW18 := upB hW16 (stepB hB18)
  clear hB18 hW16
  go_wp2_with fail
  refine (row_f _ _ _ _).mono ?_
  rintro e w19 ⟨rfl, rfl⟩
  go_wp2_with fail
  refine (Same_any [12296] [12296] _ _ 1 1 _ _ _ rfl rfl (by omega) (by omega) (hr18.up (upA w18 _)) (row_new' w18 _ _ _ rfl)).mono ?_
  rintro e w20 ⟨rfl, hB20⟩
  have hW20 := upB hW18 (stepB hB20)
  clear hB20 hW18 hr18
  go_wp2_with fail
  refine (row_f _ _ _ _).mono ?_
  rintro e w21 ⟨rfl, rfl⟩
  go_wp2_with fail
  refine (NFC_row 19 stable19 [0] [0] _ 1 _ 1 _ rfl (by omega) (by decide) (row_new' w20 _ _ _ rfl) (dec_short (by simp)) aw7 rfl).mono ?_
  rintro e w22 ⟨A22, c22, rfl, hr22, hB22⟩
  have hW22 := upB hW20 (stepB hB22)
  clear hB22 hW20
  go_wp2_with fail
  refine (row_f _ _ _ _).mono ?_
  rintro e w23 ⟨rfl, rfl⟩
  go_wp2_with fail
  refine (Same_any [0] [0] _ _ 1 1 _ _ _ rfl rfl (by omega) (by omega) (hr22.up (upA w22 _)) (row_new' w22 _ _ _ rfl)).mono ?_
  rintro e w24 ⟨rfl, hB24⟩
  have hW24 := upB hW22 (stepB hB24)
  clear hB24 hW22 hr22
  go_wp2
  go_ret
  exact ⟨rfl, hW24⟩
end Go.Proofs.YtenfdnnagijfnaaGreatDoor
