/-
  The contracts of none and awake of layer 4; what Decode answers as a function (dt).
-/
import Derived.Test.YtcdjjodiiaahfaaPunyO
import Derived.Test.YtcdjjodiiaahfaaSortB
namespace Go.Proofs.Ytcdjjodiiaahfaa
open Go.RowKit Go.Shelf Puny

/-- a text at its last '-' -/
def splitLast : List UInt8 → Option (List UInt8 × List UInt8)
  | [] => none
  | x :: l => match splitLast l with
    | some (a, b) => some (x :: a, b)
    | none => if x = 45 then some ([], l) else none

theorem splitLast_none : ∀ {l : List UInt8}, 45 ∉ l → splitLast l = none
  | [], _ => rfl
  | x :: l, h => by
    rw [splitLast, splitLast_none (fun e => h (List.mem_cons_of_mem _ e))]
    exact if_neg fun e => h (by simp [e])
theorem splitLast_mk : ∀ {a b : List UInt8}, 45 ∉ b → splitLast (a ++ 45 :: b) = some (a, b)
  | [], b, h => by rw [List.nil_append, splitLast, splitLast_none h]; rfl
  | x :: a, b, h => by rw [List.cons_append, splitLast, splitLast_mk h]

/-- what a text is as code points, or none -/
def dt (l : List UInt8) : Option (List Nat) :=
  match splitLast l with
  | none => decD [] l
  | some (a, b) => if a.all (fun x => decide (x.toNat < 128)) = true ∧ 0 < a.length then decD (nat8 a) b else none

theorem dt_of {l : List UInt8} {r : Option (List Nat)} (h : decT l r) : r = dt l := by
  obtain ⟨basic, digits, ok, hp, rfl⟩ := h
  unfold dt
  rcases hp with ⟨h0, rfl, rfl, rfl⟩ | ⟨a, b, rfl, hb, ⟨⟨x, hx, hx2⟩, rfl, rfl, rfl⟩ | ⟨ha, rfl, rfl, rfl⟩⟩
  · rw [splitLast_none h0]; rfl
  · rw [splitLast_mk hb]
    have : ¬ (a.all (fun x => decide (x.toNat < 128)) = true ∧ 0 < a.length) := fun e => by
      have := List.all_eq_true.1 e.1 x hx
      simp at this; omega
    simp only [this, if_false]; rfl
  · rw [splitLast_mk hb]
    have h1 : basic.all (fun x => decide (x.toNat < 128)) = true := List.all_eq_true.2 fun x hx => decide_eq_true (ha x hx)
    by_cases h2 : 0 < basic.length
    · simp [h1, h2]
    · simp [h2]

def DecodedF (s : ByteArray) (w : World) (e : Ending) (w' : World) : Prop :=
  (∃ out A c, dt s.data.toList = some out ∧ e = .returned (.tuple #[.slice A out.length c, .int .i64 0]) ∧ Row w' w'.heap.size A (cn out) ∧ Below w.heap.size w w') ∨
  (dt s.data.toList = none ∧ e = .returned (.tuple #[.slice none 0 0, .int .i64 40]) ∧ Below w.heap.size w w')

theorem own_form {w : World} {base : Nat} {e : TypeId} {size n : Nat} {v : Value} {xs : List Value} (h : w.ownsRow base e size v n xs) : ∃ A c, v = .slice A n c ∧ n ≤ c ∧ Row w w.heap.size A xs := by
  rcases h.2 with ⟨rfl, rfl⟩ | ⟨g, cap, cur, rfl, _, _, hc, _⟩
  · exact ⟨none, 0, rfl, by omega, .of_own h⟩
  · exact ⟨_, cap, rfl, hc, .of_own h⟩

theorem Decode_fun (s : ByteArray) (w : World) (hs : s.size ≤ 10000) : Calls Try.prog 11 #[.string s] w (DecodedF s w) :=
  (Decode_any s w hs).mono fun _ _ h => by
    rcases h with ⟨out, v, hd, he, ho, hB⟩ | ⟨hd, he, hB⟩
    · obtain ⟨A, c, rfl, _, hr⟩ := own_form ho
      exact .inl ⟨out, A, c, (dt_of hd).symm, he, hr, hB⟩
    · exact .inr ⟨(dt_of hd).symm, he, hB⟩

theorem Decode_lit (s : ByteArray) (out : List Nat) (n : Nat) (hn : out.length = n) (w : World) (hs : s.size ≤ 10000) (h : dt s.data.toList = some out) :
    Calls Try.prog 11 #[.string s] w fun e w' => ∃ A c, e = .returned (.tuple #[.slice A n c, .int .i64 0]) ∧ Row w' w'.heap.size A (cn out) ∧ Below w.heap.size w w' :=
  (Decode_fun s w hs).mono fun _ _ k => by
    rcases k with ⟨o, A, c, hd, he, hr, hB⟩ | ⟨hd, he, hB⟩
    · rw [h] at hd; cases hd; subst hn; exact ⟨A, c, he, hr, hB⟩
    · rw [h] at hd; cases hd

theorem none_lit (s : ByteArray) (w : World) (hs : s.size ≤ 10000) (h : dt s.data.toList = none) :
    Calls Try.prog 18 #[.string s] w (IsB true w) := by
  go_enter Try.func18, Try.ntmps18
  go_wp2_with fail
  refine (Decode_fun s w hs).mono ?_
  rintro e w1 (⟨o, A, c, hd, he, hr, hB⟩ | ⟨hd, rfl, hB⟩)
  · rw [h] at hd; cases hd
  · go_wp2
    go_ret
    exact ⟨rfl, hB⟩

theorem stepB {w1 w2 : World} {o : Obj} (h : Below (w1.alloc o).heap.size (w1.alloc o) w2) : Below w1.heap.size w1 w2 :=
  ((Below.refl _ w1).alloc (Nat.le_refl _) o).trans (h.mono (by simp))
theorem Row.go {w1 w2 : World} {A : Option Addr} {xs : List Value} (h : Row w1 w1.heap.size A xs) (hb : Below w1.heap.size w1 w2) : Row w2 w2.heap.size A xs := (h.below hb).mono hb.size
theorem upB {w w1 w2 : World} (h : Below w.heap.size w w1) (k : Below w1.heap.size w1 w2) : Below w.heap.size w w2 := h.trans (k.mono h.size)
theorem Row.up {w : World} {A : Option Addr} {xs : List Value} (h : Row w w.heap.size A xs) (o : Obj) : Row (w.alloc o) (w.alloc o).heap.size A xs := h.go ((Below.refl _ w).alloc (Nat.le_refl _) o)
theorem row_new' (w : World) (cs : Array Value) (t : TypeId) (news : List Value) (h : cs.toList = news) : Row (w.alloc (.cells cs t)) (w.alloc (.cells cs t)).heap.size (some ⟨w.heap.size, 0, none⟩) news := by
  rw [World.size_alloc]
  exact row_new w cs t news h

theorem str_lit {s : ByteArray} {l : List UInt8} (h : s.data.toList = l) : s = ⟨l.toArray⟩ := by
  subst h; cases s; simp

theorem aw1 : encT [98, 252, 99, 104, 101, 114] = [98, 99, 104, 101, 114, 45, 107, 118, 97] := by decide +kernel
theorem aw2 : encT [228] = [52, 99, 97] := by decide +kernel
theorem aw3 : encT [97] = [97, 45] := by decide +kernel
theorem aw4 : encT [] = [] := by decide +kernel
theorem aw5 : dt [98, 99, 104, 101, 114, 45, 107, 118, 97] = some [98, 252, 99, 104, 101, 114] := by decide +kernel
theorem aw6 : dt [45] = none := by decide +kernel
theorem aw7 : dt [98, 99, 104, 101, 114, 45, 75, 118, 97] = none := by decide +kernel
theorem aw8 : dt [57, 57, 57, 57, 57, 57, 57, 57] = none := by decide +kernel

theorem Encode_lit (l : List Nat) (A : Option Addr) (len cap : Nat) (w : World) (hlen : l.length = len) (hm : len ≤ 12) (hsc : l.all sca = true) (hr : Row w w.heap.size A (cn l)) (r : List UInt8) (h : encT l = r) :
    Calls Try.prog 9 #[.slice A len cap] w fun e w' => e = .returned (.tuple #[.string ⟨r.toArray⟩, .int .i64 0]) ∧ Below w.heap.size w w' :=
  (Encode_any 12 sortOk12 (by omega) l A len cap w hlen (Nat.le_trans (oth_len _ _) (by omega)) (by omega) (List.all_eq_true.1 hsc) hr).mono fun _ _ ⟨_, he, hd, hB⟩ => by
    rw [h] at hd
    rw [str_lit hd] at he
    exact ⟨he, hB⟩

set_option maxHeartbeats 2000000 in
theorem awake_any (w : World) : Calls Try.prog 8 #[] w (IsB true w) := by
  go_enter Try.func8, Try.ntmps8
  go_wp2_with fail
  refine (Encode_lit [98, 252, 99, 104, 101, 114] _ 6 6 _ rfl (by omega) (by decide) (row_new' w _ _ _ rfl) _ aw1).mono ?_
  rintro e w1 ⟨rfl, hB1⟩
  have hW1 := stepB hB1
  clear hB1
  go_wp2_with fail
  refine (Encode_lit [228] _ 1 1 _ rfl (by omega) (by decide) (row_new' w1 _ _ _ rfl) _ aw2).mono ?_
  rintro e w2 ⟨rfl, hB2⟩
  have hW2 := upB hW1 (stepB hB2)
  clear hB2 hW1
  go_wp2_with fail
  refine (Encode_lit [97] _ 1 1 _ rfl (by omega) (by decide) (row_new' w2 _ _ _ rfl) _ aw3).mono ?_
  rintro e w3 ⟨rfl, hB3⟩
  have hW3 := upB hW2 (stepB hB3)
  clear hB3 hW2
  go_wp2_with fail
  refine (Encode_lit [] _ 0 0 _ rfl (by omega) (by decide) Row.empty _ aw4).mono ?_
  rintro e w4 ⟨rfl, hB4⟩
  have hW4 := upB hW3 hB4
  clear hB4 hW3
  go_wp2_with fail
  refine (Decode_lit _ [98, 252, 99, 104, 101, 114] 6 rfl _ (by decide) aw5).mono ?_
  rintro e w5 ⟨A5, c5, rfl, hr5, hB5⟩
  have hW5 := upB hW4 hB5
  clear hB5 hW4
  go_wp2_with fail
  refine (SameN_any [98, 252, 99, 104, 101, 114] [98, 252, 99, 104, 101, 114] _ _ 6 6 _ _ _ rfl rfl (by omega) (by omega) (hr5.up _) (row_new' w5 _ _ _ rfl)).mono ?_
  rintro e w6 ⟨rfl, hB6⟩
  have hW6 := upB hW5 (stepB hB6)
  clear hB6 hW5 hr5
  go_wp2_with fail
  refine (none_lit _ _ (by decide) aw6).mono ?_
  rintro e w7 ⟨rfl, hB7⟩
  have hW7 := upB hW6 hB7
  clear hB7 hW6
  go_wp2_with fail
  refine (none_lit _ _ (by decide) aw7).mono ?_
  rintro e w8 ⟨rfl, hB8⟩
  have hW8 := upB hW7 hB8
  clear hB8 hW7
  go_wp2_with fail
  refine (none_lit _ _ (by decide) aw8).mono ?_
  rintro e w9 ⟨rfl, hB9⟩
  have hW9 := upB hW8 hB9
  clear hB9 hW8
  go_wp2
  go_ret
  exact ⟨rfl, hW9⟩
end Go.Proofs.Ytcdjjodiiaahfaa
