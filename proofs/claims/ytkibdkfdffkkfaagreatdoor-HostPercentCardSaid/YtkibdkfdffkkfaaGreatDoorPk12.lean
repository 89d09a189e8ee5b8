import Derived.Test.YtkibdkfdffkkfaaGreatDoorPk11
import Derived.Deep.RegionHeld3
set_option maxRecDepth 100000
set_option maxHeartbeats 8000000
namespace Go.Proofs.YtkibdkfdffkkfaaGreatDoor
open Go.RowKit Norm
def fullN:Nat->Int->List Int
 | 0,r=>[r]
 | k + 1, r => if r = 9001 then fullN k 12296 else if r = 9002 then fullN k 12297 else match spl r with
  | some p=>fullN k p.1++[p.2]
  | none=>[r]
def ends:Nat->Int->Prop
 | 0,_=>False
 | k + 1, r => -2147483648 ≤ r ∧ r ≤ 2147483647 ∧ if r = 9001 then ends k 12296 else if r = 9002 then ends k 12297 else match spl r with
  | some p=>ends k p.1
  | none=>True
theorem fullN_len:∀ k r,(fullN k r).length<=k+1
 | 0,r=>by simp[fullN]
 | k + 1, r => by
  unfold fullN
  split
  ·have:=fullN_len k 12296;omega
  ·split
   ·have:=fullN_len k 12297;omega
   ·split
    ·rename_i p hp;have:=fullN_len k p.1;simp;omega
    ·simp
theorem own_down{w:World}{base base':Nat}{e:TypeId}{size n:Nat}{v:Value}{xs:List Value}(h:w.ownsRow base e size v n xs)(hb:base'<=base):w.ownsRow base' e size v n xs:=by
 refine⟨h.1, ?_⟩
 rcases h.2 with h|⟨g,cap,cur,h1,h2,h3⟩
 ·exact .inl h
 ·exact .inr ⟨g,cap,cur,h1,Nat.le_trans hb h2,h3⟩
theorem below_undrew{B:Nat}{w w':World}(h:Below B w.drew w'):Below B w w':=⟨h.os,h.tape,h.output,h.size,h.block⟩
theorem le_alloc(w:World)(o:Obj):w.heap.size<=(w.alloc o).heap.size:=by show w.heap.size<=(w.heap.push o).size;simp
theorem below_past{w w':World}(o:Obj)(h:Below (w.alloc o).heap.size (w.alloc o) w'):Below w.heap.size w w':=((Below.refl _ w).alloc (Nat.le_refl _) o).trans (h.mono (le_alloc w o))
theorem box3{w:World}{X:Nat}{a b:Value}(h:w.heap[X]? = some (.cells #[a,b] 278 (0,0))) :
  w.cell? ⟨X,0,none⟩=some a/\w.cell? ⟨X,1,none⟩=some b/\w.heap[X]? = some (.cells #[a,b] 278 (0,0)):=⟨(box_parts h).1,(box_parts h).2.1,h⟩
theorem addNil_any:∀ k,k<=1000->∀ r,ends k r->∀ w:World,Calls Tryz.prog 281 #[.slice none 0 0,.int .i32 r] w (Added w.heap.size 0 [] (cl .i32 (fullN k r)) w)
 | 0,_,r,h,w=>h.elim
 | k + 1, hk, r, hE, w => by
  have ih:=fun r h w=>addNil_any k (by omega) r h w
  unfold ends at hE
  obtain⟨h0,h1,hE⟩:=hE
  unfold fullN
  by_cases hr1:r=9001
  ·subst hr1
   rw[if_pos rfl]at hE ⊢
   have HC:=Lib.hid (fun w=>ih 12296 hE w)
   have H1:=Lib.hid (fun w=>single_any 9001 w)
   generalize fullN k 12296=F at HC ⊢
   clear ih hE
   go_enter Tryz.func281,Tryz.ntmps281
   go_wp2_with(first|(go_at_call 320;refine (H1.out _).mono ?_;rintro e w1 ⟨rfl,rfl⟩)|(go_at_call 281;refine (HC.out _).mono ?_;rintro e w2 ⟨v2,rfl,ho2,hb2⟩)|fail)
   go_ret
   exact⟨v2,rfl,ho2,hb2⟩
  ·by_cases hr2:r=9002
   ·subst hr2
    rw[if_neg (by omega),if_pos rfl]at hE ⊢
    have HC:=Lib.hid (fun w=>ih 12297 hE w)
    have H1:=Lib.hid (fun w=>single_any 9002 w)
    generalize fullN k 12297=F at HC ⊢
    clear ih hE
    go_enter Tryz.func281,Tryz.ntmps281
    go_wp2_with(first|(go_at_call 320;refine (H1.out _).mono ?_;rintro e w1 ⟨rfl,rfl⟩)|(go_at_call 281;refine (HC.out _).mono ?_;rintro e w2 ⟨v2,rfl,ho2,hb2⟩)|fail)
    go_ret
    exact⟨v2,rfl,ho2,hb2⟩
   ·rw[if_neg hr1,if_neg hr2]at hE ⊢
    cases hs:spl r with
    | none=>exact addLeaf_any r w h0 h1 w.heap.size 0 _ [] (by omega) (Nat.le_refl _) (World.ownsRow_nil w w.heap.size 21 1) hr1 hr2 hs
    | some p =>
     rw[hs]at hE
     obtain⟨i0,hi,hzz0,hzz1,hzz2⟩:=info_split info_int32
     have H1:=Lib.hid (fun w=>by have h:=single_any r w;rw[if_neg hr1,if_neg hr2,decide_eq_false (fun h=>h.elim hr1 hr2)]at h;exact h)
     have H2:=Lib.hid (fun w=>by have h:=split_any r w h0 h1;rw[hs]at h;exact h)
     have HC:=Lib.hid (fun w=>ih p.1 hE w)
     have hFl:(fullN k p.1).length<=2000:=by have:=fullN_len k p.1;omega
     unfold optV at H2
     show Calls _ _ _ _ (Added _ _ _ (cl .i32 (fullN k p.1++[p.2])) _)
     have HRL:Hid ((cl .i32 (fullN k p.1++[p.2])).length=(cl .i32 (fullN k p.1)).length+1):=Lib.hid (by simp[cl])
     have HFF:Hid (cl .i32 (fullN k p.1++[p.2])=[]++cl .i32 (fullN k p.1)++[.int .i32 p.2]):=Lib.hid (by simp[cl])
     obtain⟨R,hR⟩:∃ R,cl .i32 (fullN k p.1++[p.2])=R:=⟨_,rfl⟩
     rw[hR]at HFF HRL ⊢
     clear hR
     generalize fullN k p.1=F at HC HFF HRL hFl
     obtain⟨x,y⟩:=p
     dsimp only at H2 HC HFF HRL
     clear ih hE hs hr1 hr2 h0 h1
     go_enter Tryz.func281,Tryz.ntmps281
     go_upto_region 6 with(first|(go_at_call 320;refine (H1.out _).mono ?_;rintro e w1 ⟨rfl,rfl⟩)|(go_at_call 321;refine (H2.out _).mono ?_;rintro e w2 ⟨rfl,hb2⟩)|fail)
     have hg4:=alloc_heap_new' w2 (.cells #[.int .i32 x,.int .i32 y] 278)
     have hw4:Below w.heap.size w (w2.alloc (.cells #[.int .i32 x,.int .i32 y] 278)):=hb2.alloc hb2.size _
     generalize w2.alloc (.cells #[.int .i32 x,.int .i32 y] 278)=W at hg4 hw4 ⊢
     generalize w2.heap.size=X at hg4 ⊢
     obtain⟨c0,c1,hg5⟩:=box3 hg4
     clear hb2 H1 H2
     go_region_held3 (fun w'=>w'.cell? ⟨X,0,none⟩=some (.int .i32 x)/\w'.cell? ⟨X,1,none⟩=some (.int .i32 y)/\w'.heap[X]? = some (.cells #[.int .i32 x,.int .i32 y] 278 (0,0))) (first|exact box3 hg4|exact box3 (alloc_old _ hg4)|exact box3 (below_old hg4 hbW)|exact box3 (alloc_old _ (below_old hg4 hbW))|exact box3 (below_old hg4 hb3)) (first
      | (go_at_call 281;refine (HC.out _).mono ?_;rintro e wA ⟨vA,rfl,hoA',hbA⟩;have hbW:Below W.heap.size W wA:=below_undrew hbA;have hoA:wA.ownsRow W.heap.size 21 1 vA (0+(cl .i32 F).length) ([]++cl .i32 F):=hoA';clear hoA' hbA)
      | (go_at_call 281;refine (HC.out _).mono ?_;rintro e wA ⟨vA,rfl,hoA',hbA⟩;have hbB:Below (W.alloc (.cells #[.int .i32 y] 21)).heap.size (W.alloc (.cells #[.int .i32 y] 21)) wA:=(by first|exact hbA|exact below_undrew hbA);have hbW:=below_past (.cells #[.int .i32 y] 21) hbB;have hoA:wA.ownsRow W.heap.size 21 1 vA (0+(cl .i32 F).length) ([]++cl .i32 F):=own_down hoA' (le_alloc W _);clear hoA' hbA)
      | (refine step_append_row _ ?_ (.tmp 27) (.tmp 30) 22 ?_ W.heap.size 21 i0 (.int .i32 0) 1 4 Tryz.underlying22 hi hzz0 hzz1 hzz2 rfl (Nat.zero_lt_succ 0) vA (0+(cl .i32 F).length) ([]++cl .i32 F) ?_ ?_ (wA.alloc (.cells #[.int .i32 y] 21)).heap.size (some ⟨wA.heap.size,0,none⟩) 1 1 [.int .i32 y] ?_ ?_ ?_ (by simp[Value.oneCell']) ?_ ?_ ?_ ?_;(rfl);(rfl);(rfl);(exact hoA.alloc _);(rfl);(rfl);(exact row_box wA _ _ _ rfl);(simp;unfold maxLen;omega);(simp;omega);(exact (hbW.alloc hbW.size _).size);intro v3 w3 ho3 hg3;have hb3:Below W.heap.size W w3:=(hbW.alloc hbW.size _).grown hg3 (hbW.alloc hbW.size _).size (fun j e=>(hoA.lt j e).1))
      | (refine step_append_row _ ?_ (.tmp 27) (.tmp 30) 22 ?_ W.heap.size 21 i0 (.int .i32 0) 1 4 Tryz.underlying22 hi hzz0 hzz1 hzz2 rfl (Nat.zero_lt_succ 0) vA (0+(cl .i32 F).length) ([]++cl .i32 F) ?_ ?_ (W.alloc (.cells #[.int .i32 y] 21)).heap.size (some ⟨W.heap.size,0,none⟩) 1 1 [.int .i32 y] ?_ ?_ ?_ (by simp[Value.oneCell']) ?_ ?_ ?_ ?_;(rfl);(rfl);(rfl);(exact hoA);(rfl);(rfl);(exact (row_box W _ _ _ rfl).below hbB);(simp;unfold maxLen;omega);(simp;omega);(exact hbW.size);intro v3 w3 ho3 hg3;have hb3:Below W.heap.size W w3:=hbW.grown hg3 hbW.size (fun j e=>(hoA.lt j e).1))
      | fail)
     all_goals (
      go_wp2_with fail
      go_ret
      have ho:=own_down ho3 hw4.size
      refine⟨v3,rfl, ?_,hw4.trans (hb3.mono hw4.size)⟩
      rw[HRL.out,HFF.out,<-Nat.add_assoc]
      exact ho)
def endsB:Nat->Int->Bool
 | 0,_=>false
 | k + 1, r => decide (-2147483648 ≤ r) && decide (r ≤ 2147483647) && if r = 9001 then endsB k 12296 else if r = 9002 then endsB k 12297 else match spl r with
  | some p=>endsB k p.1
  | none=>true
theorem ends_of:∀ k r,endsB k r=true->ends k r
 | 0,r,h=>by cases h
 | k + 1, r, h => by
  unfold endsB at h
  simp only[Bool.and_eq_true,decide_eq_true_eq]at h
  obtain⟨⟨h0,h1⟩,h2⟩:=h
  unfold ends
  refine⟨h0,h1, ?_⟩
  split at h2
  ·rename_i hr;rw[if_pos hr];exact ends_of k _ h2
  ·rename_i hr
   rw[if_neg hr]
   split at h2
   ·rename_i hr2;rw[if_pos hr2];exact ends_of k _ h2
   ·rename_i hr2
    rw[if_neg hr2]
    split at h2
    ·rename_i p hp;(try rw[hp]);exact ends_of k _ h2
    ·rename_i hp;(try rw[hp]);trivial
theorem ends_succ:∀ k r,ends k r->ends (k+1) r
 | 0,r,h=>h.elim
 | k + 1, r, h => by
  unfold ends at h
  obtain⟨h0,h1,h2⟩:=h
  show _/\_/\_
  refine⟨h0,h1, ?_⟩
  split at h2
  ·rename_i hr;rw[if_pos hr];exact ends_succ k _ h2
  ·rename_i hr
   rw[if_neg hr]
   split at h2
   ·rename_i hr2;rw[if_pos hr2];exact ends_succ k _ h2
   ·rename_i hr2
    rw[if_neg hr2]
    split at h2
    ·exact ends_succ k _ h2
    ·trivial
theorem ends_L{r:Int}(h0:4352<=r)(h1:r<4371):ends 1 r:=by
 have h:(List.range 19).all (fun i=>endsB 1 (4352+(i:Int)))=true:=by kernel_rfl
 obtain⟨i,rfl⟩:∃ i:Nat,r=4352+(i:Int):=⟨(r-4352).toNat,by omega⟩
 exact ends_of _ _ (List.all_eq_true.1 h i (List.mem_range.2 (by omega)))
theorem ends_pair{r:Int}{p:Int × Int}(h:pairR r=some p):ends 3 p.1:=by
 have hall:tabP.all (fun t=>endsB 3 t.2.1)=true:=by kernel_rfl
 unfold pairR at h
 obtain⟨t,ht,rfl⟩:=Option.map_eq_some_iff.1 h
 exact ends_of _ _ (List.all_eq_true.1 hall t (List.mem_of_find?_eq_some ht))
theorem spl_syl{r:Int}(h:syl r=true):spl r=some (sylParts r):=by unfold spl;rw[if_pos h]
theorem ends_LV{r:Int}(h0:44032<=r)(h1:r<55204)(h:(r-44032)%28=0):ends 2 r:=by
 have hs:syl r=true:=by unfold syl;simp;omega
 unfold ends
 refine⟨by omega,by omega, ?_⟩
 rw[if_neg (by omega),if_neg (by omega),spl_syl hs]
 unfold sylParts
 rw[if_pos h]
 exact ends_L (by dsimp only;omega) (by dsimp only;omega)
theorem ends_any{r:Int}(h0:-2147483648<=r)(h1:r<=2147483647):ends 4 r:=by
 unfold ends
 refine⟨h0,h1, ?_⟩
 split
 ·exact ends_of _ _ (by kernel_rfl)
 ·split
  ·exact ends_of _ _ (by kernel_rfl)
  ·by_cases hs:44032<=r/\r<55204
   ·have hs':syl r=true:=by unfold syl;simp;omega
    rw[spl_syl hs']
    unfold sylParts
    by_cases h28:(r-44032)%28=0
    ·rw[if_pos h28]
     exact ends_succ _ _ (ends_succ _ _ (ends_L (by dsimp only;omega) (by dsimp only;omega)))
    ·rw[if_neg h28]
     exact ends_succ _ _ (ends_LV (by dsimp only;omega) (by dsimp only;omega) (by dsimp only;omega))
   ·have hs':¬ syl r=true:=by unfold syl;simp;omega
    have:spl r=pairR r:=by unfold spl;rw[if_neg hs']
    rw[this]
    split
    ·rename_i p hp;exact ends_pair hp
    ·trivial
def full (r:Int):List Int:=fullN 4 r
theorem Split_any(r:Int)(w:World)(h0:-2147483648<=r)(h1:r<=2147483647):Calls Tryz.prog 249 #[.int .i32 r] w (Added w.heap.size 0 [] (cl .i32 (full r)) w):=by
 have HC:=Lib.hid (fun w=>addNil_any 4 (by omega) r (ends_any h0 h1) w)
 unfold full
 generalize fullN 4 r=F at HC ⊢
 clear h0 h1
 go_enter Tryz.func249,Tryz.ntmps249
 go_wp2_with(first|(go_at_call 281;refine (HC.out _).mono ?_;rintro e w2 ⟨v2,rfl,ho2,hb2⟩)|fail)
 go_ret
 exact⟨v2,rfl,ho2,hb2⟩
end Go.Proofs.YtkibdkfdffkkfaaGreatDoor
namespace Go.Proofs.YtkibdkfdffkkfaaGreatDoor
open Norm
theorem fullN_L{r:Int}(h0:4352<=r)(h1:r<4371):fullN 3 r=[r]/\fullN 2 r=[r]:=by
 have h:(List.range 19).all (fun i=>fullN 3 (4352+(i:Int))==[4352+(i:Int)]&&fullN 2 (4352+(i:Int))==[4352+(i:Int)])=true:=by kernel_rfl
 obtain⟨i,rfl⟩:∃ i:Nat,r=4352+(i:Int):=⟨(r-4352).toNat,by omega⟩
 have:=List.all_eq_true.1 h i (List.mem_range.2 (by omega))
 simp only[Bool.and_eq_true]at this
 exact⟨eq_of_beq this.1,eq_of_beq this.2⟩
theorem fullN_syl(k:Nat){r:Int}(h:syl r=true):fullN (k+1) r=fullN k (sylParts r).1++[(sylParts r).2]:=by
 have hr:44032<=r/\r<=55203:=by simpa[syl] using h
 rw[fullN,if_neg (by omega),if_neg (by omega),spl_syl h]
theorem full_LV{r:Int}(h0:44032<=r)(h1:r<55204)(h:(r-44032)%28=0):full r=[4352+(r-44032)/28/21,4449+(r-44032)/28%21]:=by
 have hs:syl r=true:=by unfold syl;simp;omega
 unfold full
 rw[fullN_syl 3 hs]
 unfold sylParts
 rw[if_pos h,(fullN_L (by dsimp only;omega) (by dsimp only;omega)).1]
 rfl
theorem full_LVT{r:Int}(h0:44032<=r)(h1:r<55204)(h:(r-44032)%28≠0):full r=[4352+(r-44032)/28/21,4449+(r-44032)/28%21,4519+(r-44032)%28]:=by
 have hs:syl r=true:=by unfold syl;simp;omega
 have hs2:syl (r-(r-44032)%28)=true:=by unfold syl;simp;omega
 have he:(r-(r-44032)%28-44032)/28=(r-44032)/28:=by omega
 unfold full
 rw[fullN_syl 3 hs]
 unfold sylParts
 rw[if_neg h]
 dsimp only
 rw[fullN_syl 2 hs2]
 unfold sylParts
 rw[if_pos (by omega),(fullN_L (by dsimp only;omega) (by dsimp only;omega)).2,he]
 rfl
theorem full_len(r:Int):(full r).length<=5:=fullN_len 4 r
end Go.Proofs.YtkibdkfdffkkfaaGreatDoor
