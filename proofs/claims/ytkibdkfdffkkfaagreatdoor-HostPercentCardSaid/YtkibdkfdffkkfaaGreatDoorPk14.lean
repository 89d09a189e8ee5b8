import Derived.Maps.OwnOps
import Derived.Maps.Views
import Derived.Maps.OwnSet
import Derived.WideKeyEntry
import Derived.DeepKeys4
import Derived.Test.YtkibdkfdffkkfaaGreatDoorPk12
import Derived.Test.YtkibdkfdffkkfaaGreatDoorPk13
set_option maxRecDepth 100000
set_option maxHeartbeats 8000000
namespace Go.Proofs.YtkibdkfdffkkfaaGreatDoor
open Go.RowKit Go.Maps Norm
def pjN (j:Nat) (x y:Int):Option Int:=((tabP.take j).find? (fun t=>t.2.1==x&&t.2.2==y)).map (·.1)
def jn (a b:Int):Option Int:=match sylJoin a b with
 | some r=>some r
 | none=>pjN 81 a b
theorem tabP_len:tabP.length=81:=by kernel_rfl
theorem tabP_get{j:Nat}(h:j<81):tabP[j]? = some (wh j,p1 j,p2 j):=by
 have h1:j<tabP.length:=by rw[tabP_len];exact h
 unfold wh p1 p2
 rw[List.getD_eq_getElem?_getD,List.getElem?_eq_getElem h1]
 rfl
theorem pjN_fresh:∀ j,j<81->pjN j (p1 j) (p2 j)=none:=by
 have h:(List.range 81).all (fun j=>(pjN j (p1 j) (p2 j)).isNone)=true:=by kernel_rfl
 intro j hj
 have:=List.all_eq_true.1 h j (List.mem_range.2 hj)
 exact Option.isNone_iff_eq_none.1 this
theorem pjN_same{j:Nat}(h:j<81):pjN (j+1) (p1 j) (p2 j)=some (wh j):=by
 have h1:=pjN_fresh j h
 unfold pjN at h1 ⊢
 rw[Option.map_eq_none_iff]at h1
 rw[List.take_add_one,tabP_get h,List.find?_append,h1]
 simp
theorem pjN_other{j:Nat}(h:j<81){x y:Int}(hne:¬ (x=p1 j/\y=p2 j)):pjN (j+1) x y=pjN j x y:=by
 unfold pjN
 rw[List.take_add_one,tabP_get h,List.find?_append]
 have:([(wh j,p1 j,p2 j)]:List (Int × Int × Int)).find? (fun t=>t.2.1==x&&t.2.2==y)=none:=by
  rw[List.find?_eq_none]
  intro t ht
  rw[List.mem_singleton]at ht
  subst ht
  simp only[Bool.and_eq_true,beq_iff_eq]
  exact fun e=>hne ⟨e.1.symm,e.2.symm⟩
 simp only[Option.toList_some,this,Option.or_none]
theorem lawP:WideMaps.KeyLaw Tryz.prog 278:=deep_law_laid (by kernel_rfl) (m:=2) (by omega) (of_decide_eq_true (by kernel_rfl)) (by kernel_rfl) (by kernel_rfl)
theorem zeroR(w:World):(zeroValue 21).run Tryz.prog w = .ok (.int .i32 0) w:=by kernel_rfl
theorem cellsP:Tryz.prog.cellsOf 278=2:=by kernel_rfl
theorem cells32:Tryz.prog.cellsOf 21=1:=by kernel_rfl
theorem keyTyP:Tryz.prog.keyType 278=true:=by kernel_rfl
def kp (a b:Int):Lit:=.string (keyBytes [.int .i32 a,.int .i32 b])
theorem key2_any {P : Program} {k tR : TypeId} {f0 f1 : Field} (hu : P.underlying k = some (.struct #[f0, f1])) (h0 : f0.name = "first" ∧ f0.type = tR ∧ f0.offset = 0) (h1 : f1.name = "second" ∧ f1.type = tR ∧ f1.offset = 1)
  (hR:P.underlying tR=some (.int .i32)) (hk:P.keyType k=true)
  (hc:P.cellsOf k=2) (hcR:P.cellsOf tR=1) (hp:0<P.types.size) (a b:Int) (ha:(Lit.int .i32 a).wf=true) (hb:(Lit.int .i32 b).wf=true) :
  keyOf P k (.agg #[.int .i32 a,.int .i32 b])=some (kp a b):=by
 obtain⟨m,hm⟩:∃ m,P.types.size=m+1:=⟨P.types.size-1,by omega⟩
 obtain⟨n0,t0,o0⟩:=h0
 obtain⟨n1,t1,o1⟩:=h1
 simp[keyOf,hu,hk,Value.formed,hc,hm,Program.keyLits,Value.cells,n0,t0,o0,n1,t1,o1,hcR,hR,ha,hb,kp]
theorem key_parts(a b:Int)(ha:(Lit.int .i32 a).wf=true)(hb:(Lit.int .i32 b).wf=true):keyOf Tryz.prog 278 (.agg #[.int .i32 a,.int .i32 b])=some (kp a b) :=
 key2_any Tryz.underlying278 ⟨rfl,rfl,rfl⟩ ⟨rfl,rfl,rfl⟩ Tryz.underlying21 keyTyP cellsP cells32 (of_decide_eq_true (by kernel_rfl)) a b ha hb
theorem kp_inj{a b c d:Int}(ha:(Lit.int .i32 a).wf=true)(hb:(Lit.int .i32 b).wf=true)(hc:(Lit.int .i32 c).wf=true)(hd:(Lit.int .i32 d).wf=true)(h:kp a b=kp c d):a=c/\b=d:=by
 have e1:=key_parts a b ha hb
 have e2:=key_parts c d hc hd
 rw[<-h]at e2
 have e3:=lawP.inj e1 e2
 simp only[Value.agg.injEq,Array.mk.injEq,List.cons.injEq,Value.int.injEq,and_true,true_and]at e3
 exact e3
theorem wf_p(j:Nat)(h:j<81):(Lit.int .i32 (p1 j)).wf=true/\(Lit.int .i32 (p2 j)).wf=true/\(Lit.int .i32 (wh j)).wf=true:=by
 have hb:(List.range 81).all (fun j=>(Lit.int .i32 (p1 j)).wf&&(Lit.int .i32 (p2 j)).wf&&(Lit.int .i32 (wh j)).wf)=true:=by kernel_rfl
 have:=List.all_eq_true.1 hb j (List.mem_range.2 h)
 simp only[Bool.and_eq_true]at this
 exact⟨this.1.1,this.1.2,this.2⟩
def Prs (j:Nat) (D:DataW Unit):Prop:=IsMap D/\∀ a b,(Lit.int .i32 a).wf=true->(Lit.int .i32 b).wf=true->D.atKey (kp a b) (.lit (.int .i32 0)) = .lit (.int .i32 ((pjN j a b).getD 0))/\has D (kp a b)=(pjN j a b).isSome
theorem prs_nil:Prs 0 (.map []):=⟨isMap_empty,fun _ _ _ _=>⟨rfl,rfl⟩⟩
theorem prs_step{j:Nat}{D:DataW Unit}(h:Prs j D)(hj:j<81):Prs (j+1) (D.put (kp (p1 j) (p2 j)) (.lit (.int .i32 (wh j)))):=by
 obtain⟨w1,w2,w3⟩:=wf_p j hj
 refine⟨h.1.put _ _,fun a b ha hb => ?_⟩
 by_cases he:a=p1 j/\b=p2 j
 ·obtain⟨rfl,rfl⟩:=he
  have hk:=(Keyed.of_law lawP).key (key_parts _ _ w1 w2)
  rw[atKey_put_same h.1 hk,has_put_same h.1 hk,pjN_same hj]
  exact⟨rfl,rfl⟩
 ·have hne:kp a b≠kp (p1 j) (p2 j):=fun e=>he (kp_inj ha hb w1 w2 e)
  rw[atKey_put_other hne,has_put_other hne,pjN_other hj he]
  exact h.2 a b ha hb
def PMap (w:World) (b j:Nat):Prop:=∃ D:DataW Unit,w.ownsMap Tryz.prog 278 (plainElem Tryz.prog 21) b j D/\Prs j D
theorem PMap.kept{w w':World}{b j:Nat}(h:PMap w b j){row:Option Nat}(hg:w.grownBy w' row)(hne:some b≠row):PMap w' b j:=by
 obtain⟨D,h1,h2⟩:=h
 exact⟨D,h1.kept hg hne,h2⟩
theorem PMap.below{w w':World}{b j:Nat}(h:PMap w b j)(hB:Below w.heap.size w w'):PMap w' b j :=
 h.kept (row:=none) ⟨hB.os,hB.tape,hB.output,hB.size,fun j hj _=>hB.block j hj⟩ (by simp)
theorem PMap.lt{w:World}{b j:Nat}(h:PMap w b j):b<w.heap.size:=by obtain⟨D,h1,_⟩:=h;exact h1.lt
abbrev C:=Int × Int
def ccc (r:Int):Int:=Ucd.g (Ucd.of r) 3
def classed (r:Int):C:=(r,ccc r)
def dec (l:List Int):List C:=l.flatMap fun r=>(full r).map classed
def insC (x:C):List C->List C
 | []=>[x]
 | y::t=>if x.2<y.2 then x::y::t else y::insC x t
def isort (l:List C):List C:=l.foldl (fun a x=>insC x a) []
def arr:List C->List C->List C
 | acc,[]=>isort acc
 | acc,c::t=>if c.2=0 then isort acc++c::arr [] t else arr (acc++[c]) t
structure St where
 out:List Int
 st:Int
 last:Int
def St.push (s:St) (c:C):St:=⟨s.out++[c.1],if c.2=0 then (s.out.length:Int) else s.st,c.2⟩
def St.step (s:St) (c:C):St :=
 if 0<=s.st/\(s.st=(s.out.length:Int)-1∨s.last<c.2) then
  match jn (s.out.getD s.st.toNat 0) c.1 with
  | some r=>⟨s.out.set s.st.toNat r,s.st,s.last⟩
  | none=>s.push c
 else s.push c
def comp (l:List C):List Int:=(l.foldl St.step ⟨[],-1,0⟩).out
def nfd (l:List Int):List Int:=(arr [] (dec l)).map (·.1)
def nfc (l:List Int):List Int:=comp (arr [] (dec l))
theorem pc_part:∀ j,j<81->PC.extract (j*3) (j*3+3)=#[.int .i32 (wh j),.int .i32 (p1 j),.int .i32 (p2 j)]:=by
 have hl:PC.size=243:=by kernel_rfl
 intro j hj
 obtain⟨h0,h1,h2⟩:=pairs_cells j hj
 apply Array.ext'
 apply List.ext_getElem?
 intro i
 rw[Array.getElem?_toList,Array.getElem?_extract]
 rcases i with _|_|_|i
 ·rw[if_pos (by omega),show j*3+0=3*j from by omega,h0];rfl
 ·rw[if_pos (by omega),show j*3+(0+1)=3*j+1 from by omega,h1];rfl
 ·rw[if_pos (by omega),show j*3+(0+1+1)=3*j+2 from by omega,h2];rfl
 ·rw[if_neg (by omega)];rfl
theorem run_mk(w:World):(Instr.makeMap 272 (some (.int .i64 81))).run Tryz.prog w = .ok (.map (some w.heap.size)) (w.alloc (.map #[] 0)):=by kernel_rfl
theorem idx_pairs(w:World)(j:Nat)(hj:j<81):(Instr.index 311 (.agg PC) (.int .i64 (j:Int))).run Tryz.prog w = .ok (.agg #[.int .i32 (wh j),.int .i32 (p1 j),.int .i32 (p2 j)]) w:=by
 simp[Instr.index,go_sem,pc_part j hj]
 intro h
 omega
theorem compositions_any(w:World):Calls Tryz.prog 246 #[] w (fun e w'=>e = .returned (.map (some w.heap.size))/\PMap w' w.heap.size 81/\Below w.heap.size w w'):=by
 have HP:=Lib.hid pairs_any
 have hmm:=run_mk
 go_enter Tryz.func246,Tryz.ntmps246
 go_upto_region 2 with fail
 have hown0:PMap (w.alloc (.map #[] 0)) w.heap.size 0:=⟨_,World.ownsMap_made _ _ _ _,prs_nil⟩
 have hb0:Below w.heap.size w (w.alloc (.map #[] 0)):=(Below.refl _ w).alloc (Nat.le_refl _) _
 obtain⟨W1,hW1⟩:∃ W1,w.alloc (.map #[] 0)=W1:=⟨_,rfl⟩
 rw[hW1]at hown0 hb0 ⊢
 obtain⟨W2,hW2⟩:∃ W2,W1.alloc (.cells PC 311)=W2:=⟨_,rfl⟩
 have hb2:Below W1.heap.size W1 W2:=by rw[<-hW2];exact (Below.refl _ W1).alloc (Nat.le_refl _) _
 refine wp_region_list (wpList_callTo rfl _ rfl 279 #[] (by kernel_rfl) (.agg PC) W2 (by rw[<-hW2];exact HP.out W1) ?_)
 clear hW2
 go_wp2_with fail
 go_loopw [6] (fun s6 wr => ∃ j:Nat,s6 = .int .i64 (j:Int)/\j<=81/\Below w.heap.size w wr/\PMap wr w.heap.size j) (fun s6 _=>81-(intOf s6).toNat)
 case atStart=>exact⟨0,rfl,by omega,hb0.trans (hb2.mono hb0.size),hown0.below hb2⟩
 case round =>
  obtain⟨j,rfl,hj,hB,hM⟩:=hrel
  by_cases hlt:j<81
  ·have hltz:(j:Int)<81:=by omega
   have HI:=idx_pairs wr j hlt
   obtain⟨D,hD,hP⟩:=hM
   have HP2:=Lib.hid (prs_step hP hlt)
   obtain⟨w1,w2,w3⟩:=wf_p j hlt
   have hk:=key_parts (p1 j) (p2 j) w1 w2
   have hD2:=hD.alloc (.cells #[.int .i32 (wh j),.int .i32 (p1 j),.int .i32 (p2 j)] 310)
   go_wp2_with(first|(at_mapUpdate;refine wpList_mapUpdate_own _ rfl _ _ _ 272 rfl 278 21 (Keyed.of_law lawP) Tryz.underlying272 _ w.heap.size j _ rfl hD2 (by unfold maxLen;omega) _ _ _ rfl rfl hk _ [] (plainElem_int Tryz.underlying21 w3) ?_;intro w4 hown4 hg4)|fail)
   go_roundw
   case rel=>exact⟨j+1,by go_num,by omega,hB.grown ((World.grownBy_alloc wr _ (some w.heap.size)).trans hg4) hB.size (fun j hj=>by cases hj;exact Nat.le_refl _),_,hown4,HP2.out⟩
   case measure=>simp[intOf];omega
  ·obtain rfl:j=81:=by omega
   have hltz:¬ ((81:Nat):Int)<81:=by omega
   go_wp2_with fail
   go_ret
   exact⟨rfl,hM,hB⟩
theorem wf32{a:Int}(h:(Lit.int .i32 a).wf=true):-2147483648<=a/\a<=2147483647:=by
 simp[Lit.wf,IntKind.min,IntKind.max,IntKind.bits,IntKind.signed]at h
 omega
theorem below_mapKept{H:Type}{P:Program}{k:TypeId}{R:Value->Option (DataW H × List MemPlace)}{w w1:World}{b n:Nat}{D:DataW H}(h:w.ownsMap P k R b n D)(hB:Below w.heap.size w w1):w1.ownsMap P k R b n D :=
 h.kept (row:=none) ⟨hB.os,hB.tape,hB.output,hB.size,fun j hj _=>hB.block j hj⟩ (by simp)
def jnV (a b:Int):Value:=.tuple #[.int .i32 ((jn a b).getD 0),.bool (jn a b).isSome]
theorem joinP_any(m:Nat)(a b:Int)(w:World)(hm:PMap w m 81)(ha:(Lit.int .i32 a).wf=true)(hb:(Lit.int .i32 b).wf=true):Calls Tryz.prog 247 #[.map (some m),.agg #[.int .i32 a,.int .i32 b]] w (Tells (jnV a b) w):=by
 have HJ:=Lib.hid (fun w=>joinSyllable_any a b w (wf32 ha).1 (wf32 ha).2 (wf32 hb).1 (wf32 hb).2)
 cases hs:sylJoin a b with
 | some r =>
  have HV:Hid (sylJ (a,b) = .tuple #[.int .i32 r,.bool true]):=Lib.hid (by unfold sylJ;simp only[hs])
  have HE:Hid (jnV a b = .tuple #[.int .i32 r,.bool true]):=Lib.hid (by unfold jnV jn;simp only[hs];rfl)
  clear hs
  go_enter Tryz.func247,Tryz.ntmps247
  go_wp2_with(first|(go_at_call 280;refine (HJ.out _).mono ?_;rw[HV.out];rintro e w4 ⟨rfl,hb4⟩)|fail)
  go_ret2
  exact⟨by rw[HE.out];rfl,((Below.refl _ w).alloc (Nat.le_refl _) _).trans (hb4.mono (by show w.heap.size<=(w.heap.push _).size;rw[Array.size_push];exact Nat.le_succ _))⟩
 | none =>
  have HV:Hid (sylJ (a,b) = .tuple #[.int .i32 0,.bool false]):=Lib.hid (by unfold sylJ;simp only[hs])
  have HE:Hid (jnV a b = .tuple #[.int .i32 ((pjN 81 a b).getD 0),.bool (pjN 81 a b).isSome]):=Lib.hid (by unfold jnV jn;simp only[hs])
  clear hs
  obtain⟨D,hD,hP⟩:=hm
  obtain⟨hat,hhas⟩:=hP.2 a b ha hb
  have HAT:=Lib.hid hat
  have HHAS:=Lib.hid hhas
  clear hat hhas
  have hk:=key_parts a b ha hb
  have hD1:=hD.alloc (.cells #[.int .i32 a,.int .i32 b] 278)
  obtain⟨W1,hW1⟩:∃ W1,w.alloc (.cells #[.int .i32 a,.int .i32 b] 278)=W1:=⟨_,rfl⟩
  have hb1:Below w.heap.size w W1:=by rw[<-hW1];exact (Below.refl _ w).alloc (Nat.le_refl _) _
  have hs1:w.heap.size<W1.heap.size:=by rw[<-hW1];show _<(w.heap.push _).size;simp
  have hg1:W1.heap[w.heap.size]? = some (.cells #[.int .i32 a,.int .i32 b] 278 (0,0)):=by rw[<-hW1];exact heap_alloc_new w _
  rw[hW1]at hD1
  go_enter Tryz.func247,Tryz.ntmps247
  go_upto_region 1 with fail
  obtain⟨c0,c1,_,_⟩:=box_parts hg1
  go_wp2_with(first|(go_at_call 280;refine (HJ.out _).mono ?_;rw[HV.out];rintro e w4 ⟨rfl,hb4⟩;have hg4:=(hb4.block _ hs1).trans hg1;obtain⟨c04,c14,_,_⟩:=box_parts hg4;have hD4:=below_mapKept hD1 hb4)|(at_lookup;refine wpList_lookup_own_ok_int _ rfl _ _ 272 rfl 278 21 .i32 (Keyed.of_law lawP) Tryz.underlying272 Tryz.underlying21 (zeroR _) m _ D rfl hD4 _ _ rfl hk ?_;intro c hc hwc)|fail)
  go_ret2
  have ec:c=(pjN 81 a b).getD 0:=(Lit.int.inj (DataW.lit.inj (hc.symm.trans HAT.out))).2
  exact⟨by rw[HE.out,<-ec,<-HHAS.out];rfl,hb1.trans (hb4.mono (Nat.le_of_lt hs1))⟩
end Go.Proofs.YtkibdkfdffkkfaaGreatDoor
