import Derived.Test.YtkibdkfdffkkfaaGreatDoorPk04
import Derived.RangeFuncNested
import Derived.RangeFuncBound
import Derived.Shelf.Abstract
import Derived.Shelf.RegionOpen
import Derived.OwnWalkIn
import Derived.LoopNIn
import Derived.LoopIn
set_option maxRecDepth 100000
set_option maxHeartbeats 8000000
namespace Go.Proofs.YtkibdkfdffkkfaaGreatDoor.Ut
open Go.RowKit Go.Shelf Utf
attribute [local go_sem] Oper.semAt_some
def encs (x:Cd):Array Value:=#[.agg #[.int .i32 x.1,.int .i64 (x.2.1:Int),.int .i64 (x.2.2.1:Int)],.bool x.2.2.2]
def KpB (n B:Nat) (W W':World):Prop:=Below n W W'/\W'.heap[B]? = W.heap[B]?
theorem KpB.t{n B:Nat}{X Y Z:World}(h:KpB n B X Y)(k:KpB n B Y Z):KpB n B X Z:=⟨h.1.trans k.1,k.2.trans h.2⟩
theorem KpB.b{n B:Nat}{w:World}(hn:n<=w.heap.size)(hB:B<w.heap.size)(W:World)(l:Nat)(o o':Obj)(hl:w.heap.size<=l)(h:W.heap[l]? = some o)(h1:o.isCells=false)(h2:o.isWalk=false):KpB n B W (W.putObj l o') :=
 ⟨belowK_b hn W l o o' hl h h1 h2,World.putObj_heap_other (by omega)⟩
theorem divide_any(A:Option Addr)(len cap:Nat)(w:World)(n:Nat) :
  CallsIn Fence.wide n Tryz.prog 76 #[.slice A len cap] w fun e w'=>e = .returned (.func (.func 128) #[] #[.pointer (some ⟨w.heap.size,0,none⟩)])/\w'=w.alloc (.cells #[.slice A len cap] 40):=by
 refine callsIn_of_wp Tryz.func76 rfl trivial ?_ rfl
 simp only[Tryz.ntmps76,List.size_toArray,List.length_cons,List.length_nil,Nat.reduceAdd,Nat.reduceSub,Array.replicate_succ,Array.replicate_zero,List.push_toArray,List.append_toArray,List.nil_append,List.cons_append]
 gi_wp2
 go_ret
 exact⟨rfl,rfl⟩
def DRel (bs:List Int) (n₁ Bn:Nat) (A:Option Addr) (len cap:Nat) (J:List Cd->World->Prop) (i:Value) (wr:World):Prop :=
 ∃ (pre:List Cd) (k:Nat),k<=len/\i = .int .i64 k/\codes bs=pre++codesAt bs k/\J pre wr/\Row wr n₁ A (cl .u8 bs)/\wr.heap[Bn]? = some (.cells #[.slice A len cap] 40 (0,0))/\n₁<=wr.heap.size
theorem divide1_in(n:Nat)(hn:1<=n)(l Bn n₁:Nat)(A:Option Addr)(len cap:Nat)(bs:List Int)(hlen:bs.length=len)(hcap:len<=cap)(hm:len<=100000)(hbyt:Byt bs)(J Jx:List Cd->World->Prop)(W:World)(hJ:AbidesFrom W.heap.size J)
  (hY:∀ pre x W,J pre W->pre.length<bs.length->YieldAt Fence.wide (n-1) Tryz.prog l (encs x) W fun e W' =>
   (e = .returned (.bool true)/\J (pre++[x]) W'/\KpB n₁ Bn W W')∨(e = .returned (.bool false)/\Jx (pre++[x]) W'))
  (hBn:W.heap[Bn]? = some (.cells #[.slice A len cap] 40 (0,0))) (hr:Row W n₁ A (cl .u8 bs)) (hn₁:n₁<=W.heap.size) (h0:J [] W) :
  CallsIn Fence.wide n Tryz.prog 128 #[.func (.yield l) #[] #[],.pointer (some ⟨Bn,0,none⟩)] W fun e W'=>(∃ v,e = .returned v) /\
   ((∃ ys,ys=codes bs/\J ys W')∨(∃ pre,pre <+: codes bs/\Jx pre W')):=by
 have HL:=Lib.hid hlen
 clear hlen
 refine callsIn_of_wp Tryz.func128 rfl trivial ?_ rfl
 simp only[Tryz.ntmps128,List.size_toArray,List.length_cons,List.length_nil,Nat.reduceAdd,Nat.reduceSub,Array.replicate_succ,Array.replicate_zero,List.push_toArray,List.append_toArray,List.nil_append,List.cons_append]
 gi_wp2
 gi_loopw [3] (fun i wr=>DRel bs n₁ Bn A len cap J i wr) (fun i _=>len-(intOf i).toNat)
 case atStart=>exact⟨[],0,by omega,rfl,by rw[codes_eq];rfl,h0,hr,hBn,hn₁⟩
 case round =>
  obtain⟨pre,k,hk,rfl,hcodes,hJs,hrw,hBw,hsz⟩:=hrel
  have hc:=World.cell?_of_block (a:=⟨Bn,0,none⟩) (w:=wr) (w':=wr) rfl
  have hcell:wr.cell? ⟨Bn,0,none⟩=some (.slice A len cap):=by simp[World.cell?,hBw]
  clear hc
  by_cases hlt:k<len
  ·have hkl:k<bs.length:=by rw[HL.out];exact hlt
   have hrow:Row wr wr.heap.size (Option.map (fun x=>x.add k) A) (cl .u8 (bs.drop k)):=by
    have h:=(hrw.sub (l:=k) (n:=len-k) (cap:=cap) (m:=k) (by simp[HL.out];omega) (by omega)).2 rfl
    rw[<-List.map_drop,List.take_of_length_le (by simp[HL.out])]at h
    exact h.mono hsz
   have hf:=first_any (bs.drop k) _ (len-k) (cap-k) wr (by rw[List.length_drop,HL.out]) (by omega) (by omega) (hbyt.drop k) hrow
   have hfl:=first_len (drop_ne hkl)
   have hst:=codesAt_step bs hkl
   have hfl2:(firstC (bs.drop k)).2.1<=len-k:=by have:=hfl.2.2;rw[List.length_drop,HL.out]at this;exact this
   generalize hx:firstC (bs.drop k)=x at hst hfl hfl2
   obtain⟨r,sz,ok⟩:=x
   unfold FirstDone at hf
   rw[hx]at hf
   have HCO:=Lib.hid hcodes
   have HST:=Lib.hid hst
   clear hx hcodes hst hbyt hBn hr hn₁ h0
   have HF:=Lib.hid hf
   have HJ:=Lib.hid hJ
   have HY:=Lib.hid hY
   clear hf hJ hY
   dsimp only at hfl hfl2
   gi_wp2_with fail
   refine⟨trivial,(callsIn_wide.2 HF.out).mono ?_⟩
   rintro e w1 ⟨rfl,hB1⟩
   have hJ1:J pre w1:=HJ.out pre wr w1 none hJs ⟨hB1.os,hB1.tape,hB1.output,hB1.size,fun j hj _=>hB1.block j hj⟩ (fun r e=>by cases e)
   have hBlt:Bn<wr.heap.size:=(Array.getElem?_eq_some_iff.1 hBw).1
   have hBw1:=(hB1.block Bn hBlt).trans hBw
   have hcell1:w1.cell? ⟨Bn,0,none⟩=some (.slice A len cap):=by simp[World.cell?,hBw1]
   obtain⟨fn,tmps,assign,body,hy,hR⟩:=HY.out pre (r,k,k+sz,ok) w1 hJ1 (pre_lt HCO.out hkl)
   simp only[encs,Int.natCast_add]at hy
   clear hJs
   gi_wp2
   refine hR.mono ?_
   rintro e W3 (⟨rfl,hJ3,hk3⟩|⟨rfl,hJx3⟩)
   ·gi_wp2
    go_roundw
    case rel=>exact⟨pre++[(r,k,k+sz,ok)],k+sz,by omega,by go_num,by rw[List.append_assoc,HCO.out,HST.out];rfl,hJ3,(hrw.below (hB1.mono hsz)).below hk3.1,hk3.2.trans hBw1,Nat.le_trans hsz (Nat.le_trans hB1.size hk3.1.size)⟩
    case measure=>simp[intOf];omega
   ·gi_wp2
    refine bodyPost_ret (results_none rfl _ _ _) rfl ?_
    exact⟨⟨_,rfl⟩,.inr ⟨pre++[(r,k,k+sz,ok)],⟨codesAt bs (k+sz),by rw[List.append_assoc,HCO.out,HST.out];rfl⟩,hJx3⟩⟩
  ·obtain rfl:k=len:=by omega
   have HCO:=Lib.hid hcodes
   clear hcodes
   gi_wp2
   go_end0
   exact⟨⟨_,rfl⟩,.inl ⟨pre,by rw[HCO.out,codesAt_end bs (by rw[HL.out];omega),List.append_nil],hJs⟩⟩
theorem divide_stops(n:Nat)(hn:1<=n)(Bn n₁:Nat)(A:Option Addr)(len cap:Nat)(bs:List Int)(hlen:bs.length=len)(hcap:len<=cap)(hm:len<=100000)(hbyt:Byt bs)(w:World)
  (hBn:w.heap[Bn]? = some (.cells #[.slice A len cap] 40 (0,0))) (hr:Row w n₁ A (cl .u8 bs)) (hn₁:n₁<=w.heap.size) :
  SeqStopsK Fence.wide n Tryz.prog 128 #[.pointer (some ⟨Bn,0,none⟩)] encs (KpB n₁ Bn) (fun ys=>ys=codes bs) (fun pre=>pre <+: codes bs) bs.length w:=fun l J Jx W hW hJ _ hY h0 =>
 divide1_in n hn l Bn n₁ A len cap bs hlen hcap hm hbyt J Jx W hJ hY ((hW.block Bn (Array.getElem?_eq_some_iff.1 hBn).1).trans hBn) (hr.below (hW.mono hn₁)) (Nat.le_trans hn₁ hW.size) h0
attribute [local go_sem] Oper.semAt_some
theorem info_i32:(Tryz.prog.info? 21).map (fun i=>(i.zero,i.size,i.bytes))=some (some (.int .i32 0),1,4):=by kernel_rfl
theorem blk_own{β:Type}(B:Nat)(t:TypeId)(f:β->Array Value):Own (fun s W=>W.heap[B]? = some (.cells (f s) t (0,0))):=fun s X Y row hs hg hrow =>
 (hg.block B (Array.getElem?_eq_some_iff.1 hs).1 (fun e=>by
  obtain⟨o,ho,hc⟩:=hrow B e.symm
  have hs':X.heap[B]? = some (.cells (f s) t (0,0)):=hs
  rw[hs']at ho
  cases ho
  cases hc)).trans hs
theorem box_after{W w1:World}{n₀ B B':Nat}{t' e:TypeId}{size:Nat}{v v' u:Value}{k:Nat}{xs:List Value}{tmp:Obj}
  (hb:Boxed W B' t' u) (hte:t'≠e) (hrow:W.ownsRow n₀ e size v k xs) (hgrow:(W.alloc tmp).grownBy w1 v.ownBlock) (hne:B'≠B):Boxed (w1.setCell ⟨B,0,none⟩ v') B' t' u :=
 ((hb.alloc tmp).kept hgrow (hb.not_row hte hrow)).other hne v'
def DecI (w:World) (sv:Value) (pre:List Cd) (W:World):Prop :=
 ((∃ v,Boxed W w.heap.size 22 v/\W.ownsRow w.heap.size 21 1 v pre.length (cl .i32 (pre.map (·.1)))/\True)/\Boxed W (w.heap.size+1) 40 sv)/\Below w.heap.size w W
def MadeRunes (l:List Int) (w:World) (e:Ending) (w':World):Prop :=
 ∃ v,e = .returned v/\w'.ownsRow w.heap.size 21 1 v l.length (cl .i32 l)/\Below w.heap.size w w'
theorem Decode_in(n:Nat)(hn:3<=n)(bs:List Int)(A:Option Addr)(len cap:Nat)(w:World)(hlen:bs.length=len)(hcap:len<=cap)(hm:len<=100000)(hbyt:Byt bs)(hr:Row w w.heap.size A (cl .u8 bs)) :
  CallsIn Fence.wide n Tryz.prog 37 #[.slice A len cap] w (MadeRunes (dec bs) w):=by
 have h1:1<=n:=by omega
 obtain⟨i0,hi,hz0,hz1,hz2⟩:=info_parts info_i32
 have HL:=Lib.hid hlen
 clear hlen
 refine callsIn_of_wp_marks Tryz.func37 rfl trivial ?_ rfl
 simp only[Tryz.ntmps37,List.size_toArray,List.length_cons,List.length_nil,Nat.reduceAdd,Nat.reduceSub,Array.replicate_succ,Array.replicate_zero,List.push_toArray,List.append_toArray,List.nil_append,List.cons_append]
 gi_wp2_with (refine⟨trivial, ?_⟩;gi_at_call 76;refine (divide_any _ _ _ _ _).mono ?_;rintro e w' ⟨rfl,rfl⟩)
 have bO:=(Boxed.new w 22 (.slice none 0 0)).alloc (.cells #[.slice A len cap] 40)
 have bN:=Boxed.new (w.alloc (.cells #[.slice none 0 0] 22)) 40 (.slice A len cap)
 rw[World.size_alloc]at bN
 have hB0:Below w.heap.size w ((w.alloc (.cells #[.slice none 0 0] 22)).alloc (.cells #[.slice A len cap] 40)):=((Below.refl _ w).alloc (Nat.le_refl _) _).alloc (by simp) _
 have hsz:((w.alloc (.cells #[.slice none 0 0] 22)).alloc (.cells #[.slice A len cap] 40)).heap.size=w.heap.size+2:=by simp
 obtain⟨W0,hW0⟩:∃ W0,(w.alloc (.cells #[.slice none 0 0] 22)).alloc (.cells #[.slice A len cap] 40)=W0:=⟨_,rfl⟩
 rw[hW0]at bO bN hB0 hsz ⊢
 clear hW0
 refine wpIn_rangeFunc_ownH (F:=Fence.wide) rfl h1 (gf:=128) (lb:=#[.pointer (some ⟨w.heap.size+1,0,none⟩)]) rfl trivial (enters_of Tryz.func128 (by kernel_rfl) rfl)
  (divide_stops (n-1) (by omega) (w.heap.size+1) w.heap.size A len cap bs HL.out hcap hm hbyt W0 bN (hr.below hB0) hB0.size) KpB.t (KpB.b (by omega) (by omega)) (Below.refl _ _) (fun _=>rfl)
  (DecI w (.slice A len cap))
  (fun _ _ _=>False)
  (OwnFrom.and (OwnFrom.and (Own.from (holdsRow_own w.heap.size w.heap.size 22 21 1 (fun pre:List Cd=>pre.length) (fun pre:List Cd=>cl .i32 (pre.map (·.1))) (fun _ _=>True)) _) (Own.from (boxed_own _ _ _) _)) (ownFrom_below (Nat.le_refl _) (by omega)))
  (fun _ _ _ _ _ hs _ _=>hs)
  ⟨⟨⟨_,bO,World.ownsRow_nil _ _ _ _,trivial⟩,bN⟩,hB0⟩
  (fun x a' W => ∃ Bx,w.heap.size+1<Bx/\W.heap[Bx]? = some (.cells #[.int .i32 x.1,.int .i64 (x.2.1:Int),.int .i64 (x.2.2.1:Int)] 110 (0,0))/\a' = { tmps:=#[.slice A len cap,undef,.slice none 0 0,.pointer (some ⟨w.heap.size,0,none⟩),.pointer (some ⟨Bx,0,none⟩),.slice A len cap,.func (.func 128) #[] #[.pointer (some ⟨w.heap.size+1,0,none⟩)],.agg #[.int .i32 x.1,.int .i64 (x.2.1:Int),.int .i64 (x.2.2.1:Int)],.bool x.2.2.2,undef,undef,undef,undef,undef,undef],defers:=[] })
  (fun x a' _ X Y row hs hg hr=>by obtain⟨Bx,h1,h2,h3⟩:=hs;exact⟨Bx,h1,blk_own Bx 110 (fun (_:Unit)=>#[.int .i32 x.1,.int .i64 (x.2.1:Int),.int .i64 (x.2.2.1:Int)]) () X Y row h2 hg (fun r e=>(hr r e).2),h3⟩)
  ?assign ?body ?done ?stop
 case assign =>
  rintro l pre x W K ⟨⟨⟨v,hv,hrow,_⟩,hbN⟩,hB1⟩ hK
  have hsW:=hB1.size
  have hlt:=hbN.lt
  simp only[encs]
  gi_wp2
  exact hK _ _ ((KeepsOthers.alloc _ _).from _) ⟨(Below.refl _ W).alloc hsW _,Below.heap_alloc _ _ _ hlt⟩ ⟨⟨⟨v,hv.alloc _,hrow.alloc _,trivial⟩,hbN.alloc _⟩,hB1.alloc hsW _⟩ ⟨W.heap.size,hlt,World.alloc_heap_new W _,rfl⟩
 case body =>
  rintro l pre x a' W hl ⟨r,hr⟩ ⟨⟨⟨v,hv,hrow,_⟩,hbN⟩,hB1⟩ ⟨Bx,hBx,bX,rfl⟩ hlt
  have hc:=hv.cell
  have c0:W.cell? ⟨Bx,0,none⟩=some (.int .i32 x.1):=by simp[World.cell?,bX]
  rw[HL.out]at hlt
  have hsW:=hB1.size
  gi_wp2_with (gi_at_builtin;refine wpListIn_append_own _ rfl _ _ 22 rfl w.heap.size 21 i0 (.int .i32 0) 1 4 Tryz.underlying22 hi hz0 hz1 hz2 rfl (by decide) _ _ _ rfl (hrow.alloc _) ⟨W.heap.size,0,none⟩ 1 1 _ rfl (by rfl) (news_new _ _ _ _ rfl) (by simp[Value.oneCell']) (by unfold maxLen;omega) (by omega) (by simp;omega) ?_;intro v' w1 hown' hgrow _;obtain⟨g',cap',rfl⟩:=ownsRow_succ hown';obtain⟨hv1,hv2,hr2,hk2,hb2⟩:=hv.appended (by decide) hrow hB1.size (Nat.le_refl _) hown' hgrow;have hbx:=box_after (B:=w.heap.size) (v':=.slice (some ⟨g',0,none⟩) (pre.length+1) cap') hbN (by decide) hrow hgrow (by omega);have hc1:=hv1.cell;have hf1:=hv1.frozen)
  exact⟨hk2.from _,⟨hb2,hbx.trans hbN.symm⟩,⟨⟨⟨_,hv2,by simpa using hr2,trivial⟩,hbx⟩,hB1.trans hb2⟩⟩
 case done =>
  rintro D ys W hD rfl ⟨⟨⟨v,hv,hrow,_⟩,hbN⟩,hB1⟩ hK
  have hc:=hv.cell
  gi_wp2
  refine⟨by simp,.inl ⟨_,_,rfl,run_takeDeferred hK, ?_⟩⟩
  exact⟨_,results_tmp rfl _ _ _,v,rfl,by unfold dec;rw[List.length_map];exact ownsRow_putObj hrow _ hK rfl,hB1.trans (belowK_b (w:=w) (Nat.le_refl _) W D _ _ (by omega) hK rfl rfl)⟩
 case stop =>
  rintro D c pre W _ _ h _
  exact h.elim
theorem Decode_any(bs:List Int)(A:Option Addr)(len cap:Nat)(w:World)(hlen:bs.length=len)(hcap:len<=cap)(hm:len<=100000)(hbyt:Byt bs)(hr:Row w w.heap.size A (cl .u8 bs)) :
  Calls Tryz.prog 37 #[.slice A len cap] w (MadeRunes (dec bs) w):=callsIn_wide.1 (Decode_in 3 (by omega) bs A len cap w hlen hcap hm hbyt hr)
end Go.Proofs.YtkibdkfdffkkfaaGreatDoor.Ut
namespace Go.Proofs.YtkibdkfdffkkfaaGreatDoor
open Go.RowKit
section
variable {P:Program} (w:World)
theorem run_append_row(base:Nat)(t ty e:TypeId)(i:TypeInfo)(z:Value)(size bytes:Nat)(ht:P.underlying t=some (.slice e))(hi:P.info? e=some i)(hz:i.zero=some z)
  (hsize:i.size=size) (hby:i.bytes=bytes) (hzs:z.cells.size=size) (hsz:0<size) (v:Value) (n:Nat) (xs:List Value) (hown:w.ownsRow base e size v n xs)
  (B:Nat) (A:Option Addr) (m c:Nat) (news:List Value) (hl:news.length=m*size) (hr:Row w B A news) (h1:∀ u∈news,u.oneCell'=true)
  (h63:n+m<=maxLen) (hbytes:(n+m)*bytes<=140737488355328) (hbase:base<=w.heap.size) :
  ∃ v' w',(Builtin.append_ #[t,t] ty #[v,.slice A m c]).run P w = .ok v' w'/\w'.ownsRow base e size v' (n+m) (xs++news)/\w.grownBy w' v.ownBlock:=by
 cases A with
 | none =>
  have hn:news=[]:=by
   rcases hr with h|⟨b,o,h,_⟩
   ·exact h
   ·cases h
  subst hn
  have hm:m=0:=by
   rcases Nat.eq_zero_or_pos m with h0|h0
   ·exact h0
   ·have:0<m*size:=Nat.mul_pos h0 hsz
    simp at hl
    omega
  subst hm
  refine⟨v,w, ?_,by simpa using hown,⟨rfl,rfl,rfl,Nat.le_refl _,fun _ _ _=>rfl⟩⟩
  rcases hown.2 with ⟨rfl,rfl⟩|⟨g,cap,cur,rfl,_,_,hnc,_⟩
  ·simp[Builtin.append_,run_underlying ht,sizeOf,typeInfo,hi,Builtin.lenOf,Builtin.firstCells]
  ·simp[Builtin.append_,run_underlying ht,sizeOf,typeInfo,hi,Builtin.lenOf,Builtin.firstCells,hnc,storeCells]
 | some ad =>
  have hnews:∀ j u,news[j]? = some u->w.cell? (ad.add j)=some u:=by
   intro j u hu
   rcases hr with h|⟨b,o,h,_,hc⟩
   ·subst h;simp at hu
   ·injection h with h
    subst h
    rw[Go.WideShapes.add_plain,hc j (List.getElem?_eq_some_iff.1 hu).1]
    exact hu
  obtain⟨v',w',hrun,ho,hg,_,_⟩:=run_append_own_at (P:=P) w base t ty e i z size bytes ht hi hz hsize hby hzs hsz v n xs hown ad m c news hl hnews h1 h63 hbytes hbase
  exact⟨v',w',hrun,ho,hg⟩
theorem wpList_append_row{ops:Array Oper}{rest:List Oper}{o:Oper}{a:Act}{Q:Exit->Act->World->Prop}(hgd:o.guard=none)(s x:Operand)(t:TypeId)
  (ho:o.op = .call { callee:=.builtin .append,args:=#[s,x],argTypes:=#[t,t] })
  (base:Nat) (e:TypeId) (i:TypeInfo) (z:Value) (size bytes:Nat) (ht:P.underlying t=some (.slice e)) (hi:P.info? e=some i) (hz:i.zero=some z)
  (hsize:i.size=size) (hby:i.bytes=bytes) (hzs:z.cells.size=size) (hsz:0<size) (v:Value) (n:Nat) (xs:List Value) (hs:a.eval s=v) (hown:w.ownsRow base e size v n xs)
  (B:Nat) (A:Option Addr) (m c:Nat) (news:List Value) (hx:a.eval x = .slice A m c) (hl:news.length=m*size) (hr:Row w B A news) (h1:∀ u∈news,u.oneCell'=true)
  (h63:n+m<=maxLen) (hbytes:(n+m)*bytes<=140737488355328) (hbase:base<=w.heap.size)
  (h:∀ v' w',w'.ownsRow base e size v' (n+m) (xs++news)->w.grownBy w' v.ownBlock->wpList P ops Q rest (a.put o.dst v') w'):wpList P ops Q (o::rest) a w:=by
 refine wpList_plain hgd fun K hK => ?_
 obtain⟨v',w',hr,h2,h3⟩:=run_append_row (P:=P) w base t o.type e i z size bytes ht hi hz hsize hby hzs hsz v n xs hown B A m c news hl hr h1 h63 hbytes hbase
 unfold Oper.wp execOp
 simp only[ho,resolve,invoke,builtin,Sem.run_bind,Sem.run_pure,Result.andThen_ok,List.map_toArray,List.map_cons,List.map_nil,hs,hx,hr]
 exact hK _ _ (h v' w' h2 h3)
end
theorem own_below{w w1:World}{base:Nat}{e:TypeId}{size n:Nat}{v:Value}{xs:List Value}(h:w.ownsRow base e size v n xs)(hB:Below w.heap.size w w1):w1.ownsRow base e size v n xs :=
 h.kept (row:=none) ⟨hB.os,hB.tape,hB.output,hB.size,fun j hj _=>hB.block j hj⟩ (by cases v.ownBlock<;>simp)
theorem one_cl(k:IntKind)(l:List Int):∀ u∈cl k l,u.oneCell'=true:=by
 intro u hu
 obtain⟨x,_,rfl⟩:=List.mem_map.1 hu
 simp[Value.oneCell']
end Go.Proofs.YtkibdkfdffkkfaaGreatDoor
