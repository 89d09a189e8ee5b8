/-
  norm: the pairs, as the program lays them.
-/
import Derived.Test.YtncnagagigalhaaGreatDoorNormA
import Derived.Test.YtncnagagigalhaaGreatDoorStraight
import Derived.Laws.Tables
import Derived.Laws.Rows
namespace Go.Proofs.YtncnagagigalhaaGreatDoor
open Go.RowKit Norm

namespace Norm
/-- whole, first, second -/
def tabP : List (Int × Int × Int) := [(192, 65, 768), (193, 65, 769), (194, 65, 770), (195, 65, 771), (196, 65, 776), (197, 65, 778), (199, 67, 807), (200, 69, 768), (201, 69, 769), (202, 69, 770), (203, 69, 776), (204, 73, 768), (205, 73, 769), (206, 73, 770), (207, 73, 776), (209, 78, 771), (210, 79, 768), (211, 79, 769), (212, 79, 770), (213, 79, 771), (214, 79, 776), (217, 85, 768), (218, 85, 769), (219, 85, 770), (220, 85, 776), (221, 89, 769), (224, 97, 768), (225, 97, 769), (226, 97, 770), (227, 97, 771), (228, 97, 776), (229, 97, 778), (231, 99, 807), (232, 101, 768), (233, 101, 769), (234, 101, 770), (235, 101, 776), (236, 105, 768), (237, 105, 769), (238, 105, 770), (239, 105, 776), (241, 110, 771), (242, 111, 768), (243, 111, 769), (244, 111, 770), (245, 111, 771), (246, 111, 776), (249, 117, 768), (250, 117, 769), (251, 117, 770), (252, 117, 776), (253, 121, 769), (255, 121, 776), (471, 220, 769), (472, 252, 769), (902, 913, 769), (904, 917, 769), (905, 919, 769), (906, 921, 769), (940, 945, 769), (941, 949, 769), (942, 951, 769), (943, 953, 769), (1025, 1045, 776), (1105, 1077, 776), (1570, 1575, 1619), (1571, 1575, 1620), (1572, 1608, 1620), (1573, 1575, 1621), (1574, 1610, 1620), (2345, 2344, 2364), (2353, 2352, 2364), (2356, 2355, 2364), (12364, 12363, 12441), (12366, 12365, 12441), (12368, 12367, 12441), (12370, 12369, 12441), (12372, 12371, 12441), (12460, 12459, 12441), (12462, 12461, 12441), (12464, 12463, 12441)]
end Norm
/-- the pairs as cells -/
def PC : Array Value := (tabP.flatMap fun p => [Value.int .i32 p.1, .int .i32 p.2.1, .int .i32 p.2.2]).toArray
def PZ : Array Value := (List.replicate 243 (Value.int .i32 0)).toArray

theorem wpList_straight_then {P : Program} {ops : Array Oper} {Q : Exit → Act → World → Prop} (l2 : List Oper) : ∀ (l : List Oper) (a : Act) (w : World) (a' : Act) (w' : World), straight P l a w = some (a', w') → wpList P ops Q l2 a' w' → wpList P ops Q (l ++ l2) a w
  | [], a, w, a', w', h, hQ => by
    simp only [straight, Option.some.injEq, Prod.mk.injEq] at h
    obtain ⟨rfl, rfl⟩ := h
    exact hQ
  | o :: rest, a, w, a', w', h, hQ => by
    unfold straight at h
    split at h
    · cases h
    · rename_i hg
      split at h
      · rename_i v w1 hr
        refine wpList_plain hg fun K hK => ?_
        unfold Oper.wp
        rw [hr]
        exact hK _ _ (wpList_straight_then l2 rest _ _ a' w' h hQ)
      · cases h
theorem wpList_straight_n {P : Program} {ops : Array Oper} {Q : Exit → Act → World → Prop} (n : Nat) (l : List Oper) (a : Act) (w : World) (a' : Act) (w' : World) (h : straight P (l.take n) a w = some (a', w')) (hQ : wpList P ops Q (l.drop n) a' w') : wpList P ops Q l a w := by
  have := wpList_straight_then (l.drop n) (l.take n) a w a' w' h hQ
  rwa [List.take_append_drop] at this
theorem setRow_alloc (w : World) (t : TypeId) (old cs : Array Value) : (w.alloc (.cells old t)).setRow w.heap.size cs = w.alloc (.cells cs t) := by
  unfold World.setRow World.alloc
  congr 1
  apply Array.ext
  · simp
  · intro i h1 h2
    simp only [Array.getElem_modify]
    split
    · rename_i hk; subst hk; simp
    · rename_i hk
      simp only [Array.size_modify, Array.size_push] at h1
      rw [Array.getElem_push_lt (by omega), Array.getElem_push_lt (by omega)]

set_option maxRecDepth 100000 in
set_option maxHeartbeats 4000000 in
theorem pairs_any (w : World) : Calls Tryz.prog 39 #[] w fun e w' => e = .returned (.agg PC) ∧ w' = w.alloc (.cells PC 65) := by
  refine calls_of_wp Tryz.func39 rfl ?_
  refine wp_seq (wp_region_list (wpList_straight _ _ _ _ _ (show straight _ _ _ _ = some ({ tmps := #[.pointer (some ⟨w.heap.size, 0, none⟩), undef, undef, undef, undef, undef, undef, undef, undef, undef, undef, undef, undef, undef, undef, undef, undef, undef, undef, undef, undef, undef, undef, undef, undef, undef, undef, undef, undef, undef, undef, undef, undef, undef, undef, undef, undef, undef, undef, undef, undef, undef, undef, undef, undef, undef, undef, undef, undef, undef, undef, undef, undef, undef, undef, undef, undef, undef, undef, undef, undef, undef, undef, undef, undef, undef, undef, undef, undef, undef, undef, undef, undef, undef, undef, undef, undef, undef, undef, undef, undef, undef, undef], defers := [] }, w.alloc (.cells PZ 65)) from by kernel_rfl) ?_))
  refine wp_seq (wp_region_list (wpList_straight_n 82 _ _ _ _ _ (show straight _ _ _ _ = some ({ tmps := #[.pointer (some ⟨w.heap.size, 0, none⟩), .agg #[.int .i32 192, .int .i32 65, .int .i32 768], .agg #[.int .i32 193, .int .i32 65, .int .i32 769], .agg #[.int .i32 194, .int .i32 65, .int .i32 770], .agg #[.int .i32 195, .int .i32 65, .int .i32 771], .agg #[.int .i32 196, .int .i32 65, .int .i32 776], .agg #[.int .i32 197, .int .i32 65, .int .i32 778], .agg #[.int .i32 199, .int .i32 67, .int .i32 807], .agg #[.int .i32 200, .int .i32 69, .int .i32 768], .agg #[.int .i32 201, .int .i32 69, .int .i32 769], .agg #[.int .i32 202, .int .i32 69, .int .i32 770], .agg #[.int .i32 203, .int .i32 69, .int .i32 776], .agg #[.int .i32 204, .int .i32 73, .int .i32 768], .agg #[.int .i32 205, .int .i32 73, .int .i32 769], .agg #[.int .i32 206, .int .i32 73, .int .i32 770], .agg #[.int .i32 207, .int .i32 73, .int .i32 776], .agg #[.int .i32 209, .int .i32 78, .int .i32 771], .agg #[.int .i32 210, .int .i32 79, .int .i32 768], .agg #[.int .i32 211, .int .i32 79, .int .i32 769], .agg #[.int .i32 212, .int .i32 79, .int .i32 770], .agg #[.int .i32 213, .int .i32 79, .int .i32 771], .agg #[.int .i32 214, .int .i32 79, .int .i32 776], .agg #[.int .i32 217, .int .i32 85, .int .i32 768], .agg #[.int .i32 218, .int .i32 85, .int .i32 769], .agg #[.int .i32 219, .int .i32 85, .int .i32 770], .agg #[.int .i32 220, .int .i32 85, .int .i32 776], .agg #[.int .i32 221, .int .i32 89, .int .i32 769], .agg #[.int .i32 224, .int .i32 97, .int .i32 768], .agg #[.int .i32 225, .int .i32 97, .int .i32 769], .agg #[.int .i32 226, .int .i32 97, .int .i32 770], .agg #[.int .i32 227, .int .i32 97, .int .i32 771], .agg #[.int .i32 228, .int .i32 97, .int .i32 776], .agg #[.int .i32 229, .int .i32 97, .int .i32 778], .agg #[.int .i32 231, .int .i32 99, .int .i32 807], .agg #[.int .i32 232, .int .i32 101, .int .i32 768], .agg #[.int .i32 233, .int .i32 101, .int .i32 769], .agg #[.int .i32 234, .int .i32 101, .int .i32 770], .agg #[.int .i32 235, .int .i32 101, .int .i32 776], .agg #[.int .i32 236, .int .i32 105, .int .i32 768], .agg #[.int .i32 237, .int .i32 105, .int .i32 769], .agg #[.int .i32 238, .int .i32 105, .int .i32 770], .agg #[.int .i32 239, .int .i32 105, .int .i32 776], .agg #[.int .i32 241, .int .i32 110, .int .i32 771], .agg #[.int .i32 242, .int .i32 111, .int .i32 768], .agg #[.int .i32 243, .int .i32 111, .int .i32 769], .agg #[.int .i32 244, .int .i32 111, .int .i32 770], .agg #[.int .i32 245, .int .i32 111, .int .i32 771], .agg #[.int .i32 246, .int .i32 111, .int .i32 776], .agg #[.int .i32 249, .int .i32 117, .int .i32 768], .agg #[.int .i32 250, .int .i32 117, .int .i32 769], .agg #[.int .i32 251, .int .i32 117, .int .i32 770], .agg #[.int .i32 252, .int .i32 117, .int .i32 776], .agg #[.int .i32 253, .int .i32 121, .int .i32 769], .agg #[.int .i32 255, .int .i32 121, .int .i32 776], .agg #[.int .i32 471, .int .i32 220, .int .i32 769], .agg #[.int .i32 472, .int .i32 252, .int .i32 769], .agg #[.int .i32 902, .int .i32 913, .int .i32 769], .agg #[.int .i32 904, .int .i32 917, .int .i32 769], .agg #[.int .i32 905, .int .i32 919, .int .i32 769], .agg #[.int .i32 906, .int .i32 921, .int .i32 769], .agg #[.int .i32 940, .int .i32 945, .int .i32 769], .agg #[.int .i32 941, .int .i32 949, .int .i32 769], .agg #[.int .i32 942, .int .i32 951, .int .i32 769], .agg #[.int .i32 943, .int .i32 953, .int .i32 769], .agg #[.int .i32 1025, .int .i32 1045, .int .i32 776], .agg #[.int .i32 1105, .int .i32 1077, .int .i32 776], .agg #[.int .i32 1570, .int .i32 1575, .int .i32 1619], .agg #[.int .i32 1571, .int .i32 1575, .int .i32 1620], .agg #[.int .i32 1572, .int .i32 1608, .int .i32 1620], .agg #[.int .i32 1573, .int .i32 1575, .int .i32 1621], .agg #[.int .i32 1574, .int .i32 1610, .int .i32 1620], .agg #[.int .i32 2345, .int .i32 2344, .int .i32 2364], .agg #[.int .i32 2353, .int .i32 2352, .int .i32 2364], .agg #[.int .i32 2356, .int .i32 2355, .int .i32 2364], .agg #[.int .i32 12364, .int .i32 12363, .int .i32 12441], .agg #[.int .i32 12366, .int .i32 12365, .int .i32 12441], .agg #[.int .i32 12368, .int .i32 12367, .int .i32 12441], .agg #[.int .i32 12370, .int .i32 12369, .int .i32 12441], .agg #[.int .i32 12372, .int .i32 12371, .int .i32 12441], .agg #[.int .i32 12460, .int .i32 12459, .int .i32 12441], .agg #[.int .i32 12462, .int .i32 12461, .int .i32 12441], .agg #[.int .i32 12464, .int .i32 12463, .int .i32 12441], .agg PC], defers := [] }, w.alloc (.cells PZ 65)) from by kernel_rfl) ?_))
  refine wpList_plain rfl fun K hK => ?_
  refine wp_store_row 65 _ _ rfl w.heap.size PC rfl rfl 65 PZ (heap_alloc_new w _) (by kernel_rfl) (by kernel_rfl) (by kernel_rfl) ?_
  refine hK _ _ ?_
  rw [setRow_alloc]
  show Code.wp _ _ _ _ _
  refine wp_ret ?_
  refine bodyPost_ret (results_cell_row rfl _ _ w.heap.size 65 PC (0, 0) _ rfl (heap_alloc_new w _) Tryz.underlying65 (by kernel_rfl) (by kernel_rfl)) rfl ?_
  exact ⟨rfl, rfl⟩
end Go.Proofs.YtncnagagigalhaaGreatDoor
