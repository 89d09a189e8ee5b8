/-
  fascialaw16.awake: the chapter's examples (written by gen_pthl.py).
-/
import Derived.Test.YtjkfppgekepbeaaDoorPthK
namespace Go.Proofs.YtjkfppgekepbeaaDoor.Pth
set_option maxRecDepth 100000
open Go.RowKit Utf Ut Hst

theorem ex0 : wlk (spc ⟨#[104, 116, 116, 112]⟩) (fil ⟨#[104, 116, 116, 112]⟩) [] (rn ⟨#[97, 47, 46, 46, 47, 98, 47, 46, 47, 99, 47, 46, 46]⟩) = [(⟨#[98]⟩ : ByteArray), (⟨#[]⟩ : ByteArray)] := by decide +kernel
theorem ex1 : wlk (spc ⟨#[104, 116, 116, 112]⟩) (fil ⟨#[104, 116, 116, 112]⟩) [] (rn ⟨#[97, 92, 98]⟩) = [(⟨#[97]⟩ : ByteArray), (⟨#[98]⟩ : ByteArray)] := by decide +kernel
theorem ex2 : wlk (spc ⟨#[120]⟩) (fil ⟨#[120]⟩) [] (rn ⟨#[97, 92, 98]⟩) = [(⟨#[97, 92, 98]⟩ : ByteArray)] := by decide +kernel
theorem ex3 : wlk (spc ⟨#[102, 105, 108, 101]⟩) (fil ⟨#[102, 105, 108, 101]⟩) [] (rn ⟨#[67, 124, 47, 46, 46]⟩) = [(⟨#[67, 58]⟩ : ByteArray), (⟨#[]⟩ : ByteArray)] := by decide +kernel
theorem ex4 : wlk (spc ⟨#[104, 116, 116, 112]⟩) (fil ⟨#[104, 116, 116, 112]⟩) [] (rn ⟨#[37, 50, 69, 37, 50, 101, 47, 97, 32, 98]⟩) = [(⟨#[97, 37, 50, 48, 98]⟩ : ByteArray)] := by decide +kernel
theorem ex5 : wlk (spc ⟨#[104, 116, 116, 112]⟩) (fil ⟨#[104, 116, 116, 112]⟩) [] (rn ⟨#[]⟩) = [(⟨#[]⟩ : ByteArray)] := by decide +kernel
theorem ex6 : shr (fil ⟨#[102, 105, 108, 101]⟩) [⟨#[67, 58]⟩] = [⟨#[67, 58]⟩] := by decide +kernel
theorem walks_lit (s t : ByteArray) (ys : List ByteArray) (cs : Array Value) (n : Nat) (h : wlk (spc s) (fil s) [] (rn t) = ys) (hs : s.size ≤ 1000) (ht : t.size ≤ 10000) (hc : cs.toList = sx ys) (hn : ys.length = n) (hn1 : n ≤ 1000) (W : World) :
    Calls Tryd.prog 28 #[.string s, .string t, .slice (some ⟨W.heap.size, 0, none⟩) n n] (W.alloc (.cells cs 9)) (fun e w' => e = .returned (.bool true) ∧ Below W.heap.size W w') :=
  (walks_any s t (by unfold maxLen; omega) ht ys _ n n _ hn (by omega) (by rw [World.size_alloc]; exact row_new W cs 9 (sx ys) hc)).mono fun e w' ⟨he, hb⟩ => ⟨by rw [he, decide_eq_true h], (upA W _).trans (hb.mono (by rw [World.size_alloc]; omega))⟩
set_option maxHeartbeats 4000000 in
theorem awake_any (w : World) : Calls Tryd.prog 9 #[] w (Says true w) := by
  have H0 := Lib.hid (fun W => walks_lit ⟨#[104, 116, 116, 112]⟩ ⟨#[97, 47, 46, 46, 47, 98, 47, 46, 47, 99, 47, 46, 46]⟩ [(⟨#[98]⟩ : ByteArray), (⟨#[]⟩ : ByteArray)] #[.string ⟨#[98]⟩, .string ⟨#[]⟩] 2 ex0 (by decide) (by decide) rfl rfl (by decide) W)
  have H1 := Lib.hid (fun W => walks_lit ⟨#[104, 116, 116, 112]⟩ ⟨#[97, 92, 98]⟩ [(⟨#[97]⟩ : ByteArray), (⟨#[98]⟩ : ByteArray)] #[.string ⟨#[97]⟩, .string ⟨#[98]⟩] 2 ex1 (by decide) (by decide) rfl rfl (by decide) W)
  have H2 := Lib.hid (fun W => walks_lit ⟨#[120]⟩ ⟨#[97, 92, 98]⟩ [(⟨#[97, 92, 98]⟩ : ByteArray)] #[.string ⟨#[97, 92, 98]⟩] 1 ex2 (by decide) (by decide) rfl rfl (by decide) W)
  have H3 := Lib.hid (fun W => walks_lit ⟨#[102, 105, 108, 101]⟩ ⟨#[67, 124, 47, 46, 46]⟩ [(⟨#[67, 58]⟩ : ByteArray), (⟨#[]⟩ : ByteArray)] #[.string ⟨#[67, 58]⟩, .string ⟨#[]⟩] 2 ex3 (by decide) (by decide) rfl rfl (by decide) W)
  have H4 := Lib.hid (fun W => walks_lit ⟨#[104, 116, 116, 112]⟩ ⟨#[37, 50, 69, 37, 50, 101, 47, 97, 32, 98]⟩ [(⟨#[97, 37, 50, 48, 98]⟩ : ByteArray)] #[.string ⟨#[97, 37, 50, 48, 98]⟩] 1 ex4 (by decide) (by decide) rfl rfl (by decide) W)
  have H5 := Lib.hid (fun W => walks_lit ⟨#[104, 116, 116, 112]⟩ ⟨#[]⟩ [(⟨#[]⟩ : ByteArray)] #[.string ⟨#[]⟩] 1 ex5 (by decide) (by decide) rfl rfl (by decide) W)
  have HS := Lib.hid (fun (W : World) => Shorten_any ⟨#[102, 105, 108, 101]⟩ [⟨#[67, 58]⟩] (some ⟨W.heap.size, 0, none⟩) 1 1 (W.alloc (.cells #[.string ⟨#[67, 58]⟩] 9)) rfl (by decide) (by decide) (by rw [World.size_alloc]; exact row_new W #[.string ⟨#[67, 58]⟩] 9 (sx [⟨#[67, 58]⟩]) rfl))
  rw [ex6] at HS
  unfold MadeTexts at HS
  have HT := Lib.hid (fun (W0 : Nat) (W : World) (A : Option Addr) (c : Nat) (hO : W.ownsRow W0 9 1 (.slice A 1 c) 1 (sx [⟨#[67, 58]⟩])) => Texts_any [⟨#[67, 58]⟩] [⟨#[67, 58]⟩] A (some ⟨W.heap.size, 0, none⟩) 1 1 c 1 (W.alloc (.cells #[.string ⟨#[67, 58]⟩] 9)) rfl rfl (by decide) (by decide) (by
    have h := (Row.of_own hO).below (upA W (.cells #[.string ⟨#[67, 58]⟩] 9))
    exact h.mono (by rw [World.size_alloc]; omega)) (by rw [World.size_alloc]; exact row_new W #[.string ⟨#[67, 58]⟩] 9 (sx [⟨#[67, 58]⟩]) rfl))
  go_enter Tryd.func9, Tryd.ntmps9
  go_wp2_with (first
    | (go_at_call 28; ((with_reducible refine (H0.out _).mono ?_); rintro e w1 ⟨rfl, hb1⟩; have hB1 := hb1))
    | (go_at_call 28; ((with_reducible refine (H1.out _).mono ?_); rintro e w2 ⟨rfl, hb2⟩; have hB2 := upB hB1 hb2))
    | (go_at_call 28; ((with_reducible refine (H2.out _).mono ?_); rintro e w3 ⟨rfl, hb3⟩; have hB3 := upB hB2 hb3))
    | (go_at_call 28; ((with_reducible refine (H3.out _).mono ?_); rintro e w4 ⟨rfl, hb4⟩; have hB4 := upB hB3 hb4))
    | (go_at_call 28; ((with_reducible refine (H4.out _).mono ?_); rintro e w5 ⟨rfl, hb5⟩; have hB5 := upB hB4 hb5))
    | (go_at_call 28; ((with_reducible refine (H5.out _).mono ?_); rintro e w6 ⟨rfl, hb6⟩; have hB6 := upB hB5 hb6))
    | (go_at_call 19; ((with_reducible refine (HS.out _).mono ?_); rintro e w8 ⟨A8, c8, rfl, hO8, hb8⟩; have hB8 := upB hB6 ((upA w6 _).trans (hb8.mono (by rw [World.size_alloc]; omega)))))
    | (go_at_call 18; refine (HT.out _ _ _ _ hO8).mono ?_; rintro e w9 ⟨rfl, hb9⟩; have hB9 := upB hB8 ((upA w8 _).trans (hb9.mono (by rw [World.size_alloc]; omega))))
    | fail)
  go_ret
  exact ⟨by first | rfl | simp, hB9⟩
end Go.Proofs.YtjkfppgekepbeaaDoor.Pth
