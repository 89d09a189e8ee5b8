import Derived.Test.YtkibdkfdffkkfaaGreatDoorPk39
import Derived.RangeFuncNested
import Derived.RangeFuncBound
import Derived.Shelf.Abstract
import Derived.Shelf.RegionOpen
import Derived.OwnWalkIn
import Derived.LoopNIn
import Derived.LoopIn
import Derived.Sort.CutIn
set_option maxRecDepth 100000
set_option maxHeartbeats 8000000
namespace Go.Proofs.YtkibdkfdffkkfaaGreatDoor.Fou
open Go.RowKit Go.Shelf
attribute [local go_sem] Oper.semAt_some
abbrev Pt:={x:ByteArray // x.size<=1000000}
abbrev dp (x:Pt):List UInt8:=dl x.1
def encS (x:Pt):Array Value:=#[.string x.1]
def KpB (n B:Nat) (W W':World):Prop:=Below n W W'/\W'.heap[B]? = W.heap[B]?
theorem KpB.t{n B:Nat}{X Y Z:World}(h:KpB n B X Y)(k:KpB n B Y Z):KpB n B X Z:=⟨h.1.trans k.1,k.2.trans h.2⟩
theorem KpB.b{n B:Nat}{w:World}(hn:n<=w.heap.size)(hB:B<w.heap.size)(W:World)(l:Nat)(o o':Obj)(hl:w.heap.size<=l)(h:W.heap[l]? = some o)(h1:o.isCells=false)(h2:o.isWalk=false):KpB n B W (W.putObj l o') :=
 ⟨belowK_b hn W l o o' hl h h1 h2,World.putObj_heap_other (by omega)⟩
theorem parts_any(s:ByteArray)(w:World)(n:Nat) :
  CallsIn Fence.wide n Tryz.prog 102 #[.string s] w fun e w'=>e = .returned (.func (.func 158) #[] #[.pointer (some ⟨w.heap.size,0,none⟩)])/\w'=w.alloc (.cells #[.string s] 9):=by
 refine callsIn_of_wp Tryz.func102 rfl trivial ?_ rfl
 simp only[Tryz.ntmps102,List.size_toArray,List.length_cons,List.length_nil,Nat.reduceAdd,Nat.reduceSub,Array.replicate_succ,Array.replicate_zero,List.push_toArray,List.append_toArray,List.nil_append,List.cons_append]
 gi_wp2
 go_ret
 exact⟨rfl,rfl⟩
def szOf:Value->Nat
 | .string s=>s.size
 | _=>0
def PRel (l:List UInt8) (n₁:Nat) (J:List Pt->World->Prop) (v:Value) (wr:World):Prop :=
 ∃ (pre:List Pt) (rest:ByteArray),v = .string rest/\rest.size<=1000000/\rpt (trm l)=pre.map dp++rpt (dl rest)/\J pre wr/\n₁<=wr.heap.size
theorem pre_lt{l:List UInt8}{pre:List Pt}{r:List UInt8}(h:rpt l=pre.map dp++rpt r):pre.length<(rpt l).length:=by
 rw[h,List.length_append,List.length_map]
 have:=List.length_pos_iff.2 (rpt_ne r)
 omega
theorem parts1_in(n:Nat)(hn:1<=n)(L Bn n₁:Nat)(s:ByteArray)(hs:s.size<=1000000)(J Jx:List Pt->World->Prop)(W:World)
  (hY:∀ pre x W,J pre W->pre.length<(rpt (trm (dl s))).length->YieldAt Fence.wide (n-1) Tryz.prog L (encS x) W fun e W' =>
   (e = .returned (.bool true)/\J (pre++[x]) W'/\KpB n₁ Bn W W')∨(e = .returned (.bool false)/\Jx (pre++[x]) W'))
  (hBn:W.heap[Bn]? = some (.cells #[.string s] 9 (0,0))) (hn₁:n₁<=W.heap.size) (h0:J [] W) :
  CallsIn Fence.wide n Tryz.prog 158 #[.func (.yield L) #[] #[],.pointer (some ⟨Bn,0,none⟩)] W fun e W'=>(∃ v,e = .returned v) /\
   ((∃ ys:List Pt,ys.map dp=rpt (trm (dl s))/\J ys W')∨(∃ pre:List Pt,pre.map dp <+: rpt (trm (dl s))/\pre≠[]/\Jx pre W')):=by
 have hcell0:W.cell? ⟨Bn,0,none⟩=some (.string s):=by simp[World.cell?,hBn]
 have HY:=Lib.hid hY
 clear hY hBn
 refine callsIn_of_wp Tryz.func158 rfl trivial ?_ rfl
 simp only[Tryz.ntmps158,List.size_toArray,List.length_cons,List.length_nil,Nat.reduceAdd,Nat.reduceSub,Array.replicate_succ,Array.replicate_zero,List.push_toArray,List.append_toArray,List.nil_append,List.cons_append]
 gi_wp2_with fail
 refine⟨trivial,(callsIn_wide.2 (TrimSuffix_dot s _ hs)).mono ?_⟩
 rintro e w1 ⟨t,rfl,ht,rfl⟩
 have htz:t.size<=1000000:=by
  rw[Lib.size_eq]
  show (dl t).length<=_
  rw[ht]
  have:=trm_size s.data.toList
  rw[<-Lib.size_eq]at this
  omega
 have HT:=Lib.hid ht
 clear ht hcell0
 gi_wp2
 gi_loopw [3] (fun v wr=>PRel (dl s) n₁ J v wr) (fun v _=>szOf v)
 case atStart=>exact⟨[],t,rfl,htz,by rw[HT.out];rfl,h0,hn₁⟩
 case round =>
  obtain⟨pre,rest,rfl,hz,hcodes,hJs,hsz⟩:=hrel
  have HCO:=Lib.hid hcodes
  clear hcodes h0
  gi_wp2_with fail
  refine⟨trivial,(callsIn_wide.2 (LastIndex_dot rest _ hz)).mono ?_⟩
  rintro e w1 ⟨r,rfl,hr,rfl⟩
  rcases hr with ⟨rfl,hno⟩|⟨a,b,hl,hb,rfl⟩
  ·have HN:=Lib.hid hno
   clear hno
   obtain⟨fn,tmps,assign,body,hy,hR⟩:=HY.out pre ⟨rest,hz⟩ wr hJs (pre_lt HCO.out)
   simp only[encS]at hy
   have HCS:Hid ((pre++[(⟨rest,hz⟩:Pt)]).map dp=rpt (trm (dl s))):=Lib.hid (by rw[HCO.out,rpt_one HN.out,List.map_append,List.map_singleton])
   clear hJs
   gi_wp2
   refine hR.mono ?_
   rintro e W3 (⟨rfl,hJ3,hk3⟩|⟨rfl,hJx3⟩)
   ·gi_wp2
    refine bodyPost_ret (results_none rfl _ _ _) rfl ?_
    exact⟨⟨_,rfl⟩,.inl ⟨pre++[(⟨rest,hz⟩:Pt)],HCS.out,hJ3⟩⟩
   ·gi_wp2
    refine bodyPost_ret (results_none rfl _ _ _) rfl ?_
    exact⟨⟨_,rfl⟩,.inr ⟨pre++[(⟨rest,hz⟩:Pt)],by rw[HCS.out];exact List.prefix_refl _,by simp,hJx3⟩⟩
  ·have hal:a.length<rest.size:=by
    rw[Lib.size_eq,hl];simp
   have hxe:dl (rest.extract (a.length+1) rest.size)=b:=by
    rw[dl,ext_drop _ _ _ rfl,hl]
    simp
   have hre:dl (rest.extract 0 a.length)=a:=by
    rw[dl,ext_take,hl]
    simp
   have hxz:(rest.extract (a.length+1) rest.size).size<=1000000:=by
    rw[Lib.size_eq,<-dl,hxe]
    have:rest.data.toList.length=rest.size:=(Lib.size_eq _).symm
    rw[hl]at this
    simp at this
    omega
   have hrz:(rest.extract 0 a.length).size=a.length:=by rw[Lib.size_eq,<-dl,hre]
   have HCS:Hid (rpt (trm (dl s))=(pre++[(⟨rest.extract (a.length+1) rest.size,hxz⟩:Pt)]).map dp++rpt (dl (rest.extract 0 a.length))):=Lib.hid (by
    rw[HCO.out,dl,hl,rpt_last hb,List.map_append,List.map_singleton,show dp ⟨rest.extract (a.length+1) rest.size,hxz⟩=b from hxe,hre,List.append_assoc]
    rfl)
   have HRZ:=Lib.hid hrz
   clear hl hb hxe hre hrz
   have h3:(a.length:Int)+1<=rest.size:=by omega
   obtain⟨fn,tmps,assign,body,hy,hR⟩:=HY.out pre ⟨rest.extract (a.length+1) rest.size,hxz⟩ wr hJs (pre_lt HCO.out)
   simp only[encS]at hy
   clear hJs
   gi_wp2
   refine hR.mono ?_
   rintro e W3 (⟨rfl,hJ3,hk3⟩|⟨rfl,hJx3⟩)
   ·have h4:¬ (a.length:Int)<0:=by omega
    gi_wp2
    go_roundw
    case rel=>exact⟨pre++[(⟨rest.extract (a.length+1) rest.size,hxz⟩:Pt)],rest.extract 0 a.length,rfl,by rw[HRZ.out];omega,HCS.out,hJ3,Nat.le_trans hsz hk3.1.size⟩
    case measure=>show (rest.extract 0 a.length).size<rest.size;rw[HRZ.out];exact hal
   ·gi_wp2
    refine bodyPost_ret (results_none rfl _ _ _) rfl ?_
    exact⟨⟨_,rfl⟩,.inr ⟨pre++[(⟨rest.extract (a.length+1) rest.size,hxz⟩:Pt)],⟨_,HCS.out.symm⟩,by simp,hJx3⟩⟩
theorem parts_stops(n:Nat)(hn:1<=n)(Bn n₁:Nat)(s:ByteArray)(hs:s.size<=1000000)(w:World)(hBn:w.heap[Bn]? = some (.cells #[.string s] 9 (0,0)))(hn₁:n₁<=w.heap.size) :
  SeqStopsK Fence.wide n Tryz.prog 158 #[.pointer (some ⟨Bn,0,none⟩)] encS (KpB n₁ Bn) (fun ys=>ys.map dp=rpt (trm (dl s))) (fun pre=>pre.map dp <+: rpt (trm (dl s))/\pre≠[]) (rpt (trm (dl s))).length w:=fun L J Jx W hW _ _ hY h0 =>
 (parts1_in n hn L Bn n₁ s hs J Jx W hY ((hW.block Bn (Array.getElem?_eq_some_iff.1 hBn).1).trans hBn) (Nat.le_trans hn₁ hW.size) h0).mono fun _ _ h=>⟨h.1,h.2.imp id fun ⟨pre,h1,h2,h3⟩=>⟨pre,⟨h1,h2⟩,h3⟩⟩
end Go.Proofs.YtkibdkfdffkkfaaGreatDoor.Fou
namespace Go.Proofs.YtkibdkfdffkkfaaGreatDoor.Fou
def dgB (d:Nat):UInt8:=if d<10 then UInt8.ofNat (48+d) else UInt8.ofNat (87+d)
def digs (b n:Nat):List UInt8:=if _h:n<b∨b<2 then [dgB n] else digs b (n/b)++[dgB (n%b)]
termination_by n
decreasing_by exact Nat.div_lt_self (by omega) (by omega)
def byt (x j:Nat):Nat:=x/2 ^ (24-8*j)%256
def bts (x:Nat):List (List UInt8):=[digs 10 (byt x 0),digs 10 (byt x 1),digs 10 (byt x 2),digs 10 (byt x 3)]
def shw (x:Nat):List UInt8:=Lib.join (bts x) [46]
end Go.Proofs.YtkibdkfdffkkfaaGreatDoor.Fou
namespace Go.Proofs.YtkibdkfdffkkfaaGreatDoor.Fou
open Go.RowKit Go.Shelf
attribute [local go_sem] Oper.semAt_some
theorem box_go{W W':World}{B:Nat}{t:TypeId}{v:Value}(h:Boxed W B t v)(hb:Below W.heap.size W W'):Boxed W' B t v:=(hb.block B h.lt).trans h
theorem upB{w w1 w2:World}(h:Below w.heap.size w w1)(k:Below w1.heap.size w1 w2):Below w.heap.size w w2:=h.trans (k.mono h.size)
theorem keeps_below{W W':World}(h:Below W.heap.size W W'):KeepsOthers W W':=⟨h.size,fun k _ hk _=>(h.block k (Array.getElem?_eq_some_iff.1 hk).1).trans hk⟩
def LpI (w:World) (s:ByteArray) (pre:List Pt) (W:World):Prop :=
 ((pre=[]/\Boxed W w.heap.size 9 (.string ByteArray.empty))/\Boxed W (w.heap.size+1) 9 (.string s))/\Below w.heap.size w W
def LpX (w:World) (c:Code) (pre:List Pt) (W:World):Prop :=
 ((c = .ret/\pre.length=1)/\Boxed W w.heap.size 9 (.string ((pre.map (·.1)).headD ByteArray.empty)))/\Below w.heap.size w W
def LastP (l:List UInt8) (w:World) (e:Ending) (w':World):Prop:=∃ t:ByteArray,e = .returned (.string t)/\dl t=lst l/\Below w.heap.size w w'
theorem lastPart_in(n:Nat)(hn:3<=n)(s:ByteArray)(hs:s.size<=1000000)(w:World) :
  CallsIn Fence.wide n Tryz.prog 59 #[.string s] w (LastP (dl s) w):=by
 have h1:1<=n:=by omega
 refine callsIn_of_wp_marks Tryz.func59 rfl trivial ?_ rfl
 simp only[Tryz.ntmps59,List.size_toArray,List.length_cons,List.length_nil,Nat.reduceAdd,Nat.reduceSub,Array.replicate_succ,Array.replicate_zero,List.push_toArray,List.append_toArray,List.nil_append,List.cons_append]
 gi_wp2_with (refine⟨trivial, ?_⟩;gi_at_call 102;refine (parts_any _ _ _).mono ?_;rintro e w' ⟨rfl,rfl⟩)
 have bO:=(Boxed.new w 9 (.string ByteArray.empty)).alloc (.cells #[.string s] 9)
 have bN:=Boxed.new (w.alloc (.cells #[.string ByteArray.empty] 9)) 9 (.string s)
 rw[World.size_alloc]at bN
 have hB0:Below w.heap.size w ((w.alloc (.cells #[.string ByteArray.empty] 9)).alloc (.cells #[.string s] 9)):=((Below.refl _ w).alloc (Nat.le_refl _) _).alloc (by simp) _
 have hsz:((w.alloc (.cells #[.string ByteArray.empty] 9)).alloc (.cells #[.string s] 9)).heap.size=w.heap.size+2:=by simp
 obtain⟨W0,hW0⟩:∃ W0,(w.alloc (.cells #[.string ByteArray.empty] 9)).alloc (.cells #[.string s] 9)=W0:=⟨_,rfl⟩
 have hW1:(w.alloc (.cells #[.string ⟨#[]⟩] 9)).alloc (.cells #[.string s] 9)=W0:=hW0
 rw[hW0]at bO bN hB0 hsz
 first|rw[hW0]|rw[hW1]|trace_state
 clear hW0 hW1
 refine wpIn_rangeFunc_ownH (F:=Fence.wide) rfl h1 (gf:=158) (lb:=#[.pointer (some ⟨w.heap.size+1,0,none⟩)]) rfl trivial (enters_of Tryz.func158 (by kernel_rfl) rfl)
  (parts_stops (n-1) (by omega) (w.heap.size+1) w.heap.size s hs W0 bN hB0.size) KpB.t (KpB.b (by omega) (by omega)) (Below.refl _ _) (fun _=>rfl)
  (LpI w s)
  (LpX w)
  (OwnFrom.and (OwnFrom.and (OwnFrom.and (ownFrom_pure _ _) (Own.from (boxed_own _ _ _) _)) (Own.from (boxed_own _ _ _) _)) (ownFrom_below (Nat.le_refl _) (by omega)))
  (fun c=>OwnFrom.and (OwnFrom.and (ownFrom_pure _ _) (Own.from (boxed_own _ _ (fun pre:List Pt=>Value.string ((pre.map (·.1)).headD ByteArray.empty))) _)) (ownFrom_below (Nat.le_refl _) (by omega)))
  ⟨⟨⟨rfl,bO⟩,bN⟩,hB0⟩
  (fun x a' _=>a' = { tmps:=#[.string s,undef,.pointer (some ⟨w.heap.size,0,none⟩),.string x.1,.string s,.func (.func 158) #[] #[.pointer (some ⟨w.heap.size+1,0,none⟩)],.string x.1,undef],defers:=[] })
  (fun _ _ _ _ _ _ hs _ _=>hs)
  ?assign ?body ?done ?stop
 case assign =>
  rintro l' pre x W K hI hK
  simp only[encS]
  gi_wp2
  exact hK _ _ (KeepsFrom.refl _ _) ⟨Below.refl _ _,rfl⟩ hI rfl
 case body =>
  rintro l' pre x a' W hl ⟨r',hr'⟩ ⟨⟨⟨rfl,bO1⟩,bN1⟩,hB1⟩ rfl hlt
  have hc:=bO1.cell
  have hf:=bO1.frozen
  gi_wp2
  refine⟨(KeepsOthers.setCell _ _ _).from _,⟨⟨rfl,rfl⟩, ?_⟩,hB1.setCell (p:=⟨w.heap.size,0,none⟩) (Nat.le_refl _) _⟩
  exact bO1.set _
 case done =>
  rintro D ys W hD hys ⟨⟨⟨rfl,bO1⟩,bN1⟩,hB1⟩ hK
  exact absurd hys.symm (rpt_ne _)
 case stop =>
  rintro D c pre W hD ⟨hpre,hpn⟩ ⟨⟨⟨rfl,hx⟩,hv⟩,hB1⟩ hK
  obtain⟨x,rfl⟩:=List.length_eq_one_iff.1 hx
  have hc:=hv.cell
  gi_wp2
  refine⟨by simp,.inl ⟨_,_,rfl,run_takeDeferred hK, ?_⟩⟩
  have hb5:=cell_kept hv.cell (grownBy_putObj' _ D (.deferred none)) (fun r e=>by cases e;exact⟨_,hK,rfl⟩)
  obtain⟨t,ht⟩:=hpre
  refine⟨.string x.1,by simp[results,Tryz.f59,go_sem,hb5],x.1,rfl, ?_, ?_⟩
  ·exact (lst_of ht.symm).symm
  ·exact hB1.trans (belowK_b (w:=w) (Nat.le_refl _) W D _ _ (by omega) hK rfl rfl)
theorem lastPart_any(s:ByteArray)(hs:s.size<=1000000)(w:World):Calls Tryz.prog 59 #[.string s] w (LastP (dl s) w):=callsIn_wide.1 (lastPart_in 3 (by omega) s hs w)
theorem lst_size(l:List UInt8):(lst l).length<=l.length:=by
 have h1:lst l∈rpt (trm l):=List.head_mem _
 have h2:=spl_size (trm l) _ (List.mem_reverse.1 h1)
 exact Nat.le_trans h2 (trm_size l)
def Says (q:Bool) (w:World) (e:Ending) (w':World):Prop:=e = .returned (.bool q)/\Below w.heap.size w w'
theorem says_mk{q q':Bool}{w w':World}(h:q=q')(hB:Below w.heap.size w w'):Says q w (.returned (.bool q')) w':=⟨by rw[h],hB⟩
theorem Ends_any(s:ByteArray)(hs:s.size<=1000000)(w:World):Calls Tryz.prog 17 #[.string s] w (Says (ends (dl s)) w):=by
 have hsz:=lst_size (dl s)
 have hz:(dl s).length<=1000000:=by rw[<-Lib.size_eq];exact hs
 have HL:=Lib.hid (lastPart_any s hs w)
 unfold LastP at HL
 unfold ends
 generalize lst (dl s)=q at HL hsz ⊢
 clear hs
 go_enter Tryz.func17,Tryz.ntmps17
 go_wp2_with fail
 refine HL.out.mono ?_
 rintro e w1 ⟨t,rfl,ht,hB1⟩
 have htz:t.size<=1000000:=by rw[Lib.size_eq];show (dl t).length<=_;rw[ht];omega
 by_cases h0:q=[]
 ·have e1:t.toList=[]:=by rw[ByteArray.toList_eq];exact ht.trans h0
  have e2:t.toList.isEmpty=true:=by rw[e1];rfl
  have HQ:Hid ((!q.isEmpty&&((val 10 q).isSome||(num q).isSome))=false):=Lib.hid (by rw[h0];rfl)
  clear ht h0 hsz hz HL
  go_wp2
  go_ret
  exact says_mk HQ.out hB1
 ·have e1:t.toList≠[]:=by rw[ByteArray.toList_eq];exact fun e=>h0 (ht.symm.trans e)
  have e2:t.toList.isEmpty=false:=by rw[List.isEmpty_eq_false_iff];exact e1
  have HV:=Lib.hid (value_any t 10 w1 htz (by decide))
  rw[ht]at HV
  have HT:=Lib.hid ht
  obtain⟨o,ho⟩:∃ o,val 10 q=o:=⟨_,rfl⟩
  obtain⟨p,hp⟩:∃ p,num q=p:=⟨_,rfl⟩
  rw[ho]at HV
  have HQ:Hid ((!q.isEmpty&&((val 10 q).isSome||(num q).isSome))=(o.isSome||p.isSome)):=Lib.hid (by
   rw[List.isEmpty_eq_false_iff.2 h0,ho,hp];rfl)
  have HP:=Lib.hid hp
  clear ht h0 hsz hz HL ho hp e1
  cases o with
  | none =>
   go_wp2_with fail
   refine HV.out.mono ?_
   rintro e w2 ⟨rfl,hB2⟩
   have HN:=Lib.hid (Number_any t w2 htz)
   rw[HT.out,HP.out]at HN
   cases p with
   | none =>
    go_wp2_with fail
    refine HN.out.mono ?_
    rintro e w3 ⟨rfl,hB3⟩
    go_wp2
    go_ret
    exact says_mk HQ.out (upB (upB hB1 hB2) hB3)
   | some m =>
    go_wp2_with fail
    refine HN.out.mono ?_
    rintro e w3 ⟨rfl,hB3⟩
    go_wp2
    go_ret
    exact says_mk HQ.out (upB (upB hB1 hB2) hB3)
  | some m0 =>
   go_wp2_with fail
   refine HV.out.mono ?_
   rintro e w2 ⟨rfl,hB2⟩
   have HN:=Lib.hid (Number_any t w2 htz)
   rw[HT.out,HP.out]at HN
   cases p with
   | none =>
    go_wp2_with fail
    refine HN.out.mono ?_
    rintro e w3 ⟨rfl,hB3⟩
    go_wp2
    go_ret
    exact says_mk HQ.out (upB (upB hB1 hB2) hB3)
   | some m =>
    go_wp2_with fail
    refine HN.out.mono ?_
    rintro e w3 ⟨rfl,hB3⟩
    go_wp2
    go_ret
    exact says_mk HQ.out (upB (upB hB1 hB2) hB3)
attribute [local go_sem] Oper.semAt_some
theorem pgo_app(qs:List (List UInt8)):∀ (ps:List (List UInt8)) (c f l:Nat),pgo c f l (ps++qs)=match pgo c f l ps with|none=>none|some (c',f',l')=>pgo c' f' l' qs
 | [],c,f,l=>by simp only[List.nil_append,pgo]
 | q :: t, c, f, l => by
  rw[List.cons_append,pgo,pgo]
  cases num q with
  | none=>rfl
  | some n =>
   dsimp only
   split
   ·rfl
   ·split
    ·exact pgo_app qs t _ _ _
    ·split
     ·rfl
     ·exact pgo_app qs t _ _ _
def st (pre:List Pt):Nat × Nat × Nat:=(pgo 0 0 0 (pre.map dp)).getD (0,0,0)
theorem st_some{pre:List Pt}(h:(pgo 0 0 0 (pre.map dp)).isSome=true):pgo 0 0 0 (pre.map dp)=some (st pre):=by
 unfold st
 obtain⟨x,hx⟩:=Option.isSome_iff_exists.1 h
 rw[hx]
 rfl
theorem st_of{pre:List Pt}{x:Nat × Nat × Nat}(h:pgo 0 0 0 (pre.map dp)=some x):st pre=x:=by
 unfold st
 rw[h]
 rfl
theorem pgo_snoc{pre:List Pt}(x:Pt){c f l:Nat}(h:pgo 0 0 0 (pre.map dp)=some (c,f,l)):pgo 0 0 0 ((pre++[x]).map dp)=match num (dp x) with
  | none=>none
  | some n=>if c=4 then none else if c=0 then some (1,f,n) else if 255<n then none else some (c+1,f+n*256 ^ (c-1),l):=by
 rw[List.map_append,List.map_singleton,pgo_app,h]
 show pgo c f l [dp x]=_
 rw[pgo]
 cases num (dp x) with
 | none=>rfl
 | some n=>simp only[pgo]
def Parsed (o:Option Nat) (w:World) (e:Ending) (w':World):Prop:=(e=match o with|some x => .returned (.tuple #[.int .u32 (x:Int),.int .i64 0])|none => .returned (.tuple #[.int .u32 0,.int .i64 30]))/\Below w.heap.size w w'
theorem parsed_some{o:Option Nat}{n:Nat}{w w':World}(h:o=some n)(hB:Below w.heap.size w w'):Parsed o w (.returned (.tuple #[.int .u32 (n:Int),.int .i64 0])) w':=⟨by rw[h],hB⟩
theorem parsed_none{o:Option Nat}{w w':World}(h:o=none)(hB:Below w.heap.size w w'):Parsed o w (.returned (.tuple #[.int .u32 0,.int .i64 30])) w':=⟨by rw[h],hB⟩
def PaI (w:World) (s:ByteArray) (pre:List Pt) (W:World):Prop :=
 (((((((pgo 0 0 0 (pre.map dp)).isSome=true/\Boxed W w.heap.size 24 (.int .u32 0))/\Boxed W (w.heap.size+1) 29 (.int .i64 0))/\Boxed W (w.heap.size+2) 72 (.int .u64 ((st pre).2.1:Int)))/\Boxed W (w.heap.size+3) 72 (.int .u64 ((st pre).2.2:Int)))/\Boxed W (w.heap.size+4) 3 (.int .i64 ((st pre).1:Int)))/\Boxed W (w.heap.size+5) 9 (.string s))/\Below w.heap.size w W
def PaX (w:World) (c:Code) (pre:List Pt) (W:World):Prop :=
 (((c = .ret/\pgo 0 0 0 (pre.map dp)=none)/\Boxed W w.heap.size 24 (.int .u32 0))/\Boxed W (w.heap.size+1) 29 (.int .i64 30))/\Below w.heap.size w W
theorem wpIn_then{F:Fence}{n:Nat}{P:Program}{s:Code}{Q:Exit->Act->World->Prop}{a:Act}{w:World}
  (h:∀ K:Act->World->Prop,(∀ a' w',Q .normal a' w'->K a' w')->s.wpIn F n P (Exit.then K Q) a w):s.wpIn F n P Q a w:=by
 refine wpIn_mono (h (fun a' w'=>Q .normal a' w') (fun _ _ q=>q)) ?_
 intro e a' w' hq
 cases e with
 | normal=>exact hq
 | exit id=>exact hq
 | goto l=>exact hq
 | ret=>exact hq
 | panic ch=>exact hq
 | outgrown=>exact hq
theorem or_add(f m t:Nat)(hf:f<2 ^ t):f ||| m*2 ^ t=f+m*2 ^ t:=by
 rw[Nat.or_comm,Nat.mul_comm,<-Nat.two_pow_add_eq_or_of_lt hf,Nat.add_comm]
theorem or_val(f m t M:Nat)(hM:M=2 ^ t)(hm:m<M)(hx:f*M+m<4294967296):bits .or .u64 ((f:Int)*(M:Int)) (m:Int)%4294967296=((f*M+m:Nat):Int):=by
 have e1:(f:Int)*(M:Int)=((f*M:Nat):Int):=by simp
 have e2:f*M ||| m=f*M+m:=by
  rw[Nat.or_comm,hM,or_add m f t (hM ▸ hm),Nat.add_comm]
 rw[e1,u64_or_nat _ _ (by omega) (by omega),e2]
 exact Int.emod_eq_of_lt (by omega) (by omega)
theorem Parse_in(n:Nat)(hn:3<=n)(s:ByteArray)(hs:s.size<=1000000)(w:World) :
  CallsIn Fence.wide n Tryz.prog 89 #[.string s] w (Parsed (ans (dl s)) w):=by
 have h1:1<=n:=by omega
 refine callsIn_of_wp_marks Tryz.func89 rfl trivial ?_ rfl
 simp only[Tryz.ntmps89,List.size_toArray,List.length_cons,List.length_nil,Nat.reduceAdd,Nat.reduceSub,Array.replicate_succ,Array.replicate_zero,List.push_toArray,List.append_toArray,List.nil_append,List.cons_append]
 gi_wp2_with (refine⟨trivial, ?_⟩;gi_at_call 102;refine (parts_any _ _ _).mono ?_;rintro e w' ⟨rfl,rfl⟩)
 simp only[Nat.add_assoc,Nat.reduceAdd]
 have b0:Boxed ((((((w.alloc (.cells #[.int .u32 0] 24)).alloc (.cells #[.int .i64 0] 29)).alloc (.cells #[.int .u64 0] 72)).alloc (.cells #[.int .u64 0] 72)).alloc (.cells #[.int .i64 0] 3)).alloc (.cells #[.string s] 9)) w.heap.size 24 (.int .u32 0):=by
  have h:=((((((Boxed.new w 24 (.int .u32 0)).alloc (.cells #[.int .i64 0] 29)).alloc (.cells #[.int .u64 0] 72)).alloc (.cells #[.int .u64 0] 72)).alloc (.cells #[.int .i64 0] 3)).alloc (.cells #[.string s] 9))
  exact h
 have b1:Boxed ((((((w.alloc (.cells #[.int .u32 0] 24)).alloc (.cells #[.int .i64 0] 29)).alloc (.cells #[.int .u64 0] 72)).alloc (.cells #[.int .u64 0] 72)).alloc (.cells #[.int .i64 0] 3)).alloc (.cells #[.string s] 9)) (w.heap.size+1) 29 (.int .i64 0):=by
  have h:=(((((Boxed.new (w.alloc (.cells #[.int .u32 0] 24)) 29 (.int .i64 0)).alloc (.cells #[.int .u64 0] 72)).alloc (.cells #[.int .u64 0] 72)).alloc (.cells #[.int .i64 0] 3)).alloc (.cells #[.string s] 9))
  rw[World.size_alloc]at h
  exact h
 have b2:Boxed ((((((w.alloc (.cells #[.int .u32 0] 24)).alloc (.cells #[.int .i64 0] 29)).alloc (.cells #[.int .u64 0] 72)).alloc (.cells #[.int .u64 0] 72)).alloc (.cells #[.int .i64 0] 3)).alloc (.cells #[.string s] 9)) (w.heap.size+2) 72 (.int .u64 0):=by
  have h:=((((Boxed.new ((w.alloc (.cells #[.int .u32 0] 24)).alloc (.cells #[.int .i64 0] 29)) 72 (.int .u64 0)).alloc (.cells #[.int .u64 0] 72)).alloc (.cells #[.int .i64 0] 3)).alloc (.cells #[.string s] 9))
  rw[World.size_alloc]at h;rw[World.size_alloc]at h
  exact h
 have b3:Boxed ((((((w.alloc (.cells #[.int .u32 0] 24)).alloc (.cells #[.int .i64 0] 29)).alloc (.cells #[.int .u64 0] 72)).alloc (.cells #[.int .u64 0] 72)).alloc (.cells #[.int .i64 0] 3)).alloc (.cells #[.string s] 9)) (w.heap.size+3) 72 (.int .u64 0):=by
  have h:=(((Boxed.new (((w.alloc (.cells #[.int .u32 0] 24)).alloc (.cells #[.int .i64 0] 29)).alloc (.cells #[.int .u64 0] 72)) 72 (.int .u64 0)).alloc (.cells #[.int .i64 0] 3)).alloc (.cells #[.string s] 9))
  rw[World.size_alloc]at h;rw[World.size_alloc]at h;rw[World.size_alloc]at h
  exact h
 have b4:Boxed ((((((w.alloc (.cells #[.int .u32 0] 24)).alloc (.cells #[.int .i64 0] 29)).alloc (.cells #[.int .u64 0] 72)).alloc (.cells #[.int .u64 0] 72)).alloc (.cells #[.int .i64 0] 3)).alloc (.cells #[.string s] 9)) (w.heap.size+4) 3 (.int .i64 0):=by
  have h:=((Boxed.new ((((w.alloc (.cells #[.int .u32 0] 24)).alloc (.cells #[.int .i64 0] 29)).alloc (.cells #[.int .u64 0] 72)).alloc (.cells #[.int .u64 0] 72)) 3 (.int .i64 0)).alloc (.cells #[.string s] 9))
  rw[World.size_alloc]at h;rw[World.size_alloc]at h;rw[World.size_alloc]at h;rw[World.size_alloc]at h
  exact h
 have b5:Boxed ((((((w.alloc (.cells #[.int .u32 0] 24)).alloc (.cells #[.int .i64 0] 29)).alloc (.cells #[.int .u64 0] 72)).alloc (.cells #[.int .u64 0] 72)).alloc (.cells #[.int .i64 0] 3)).alloc (.cells #[.string s] 9)) (w.heap.size+5) 9 (.string s):=by
  have h:=(Boxed.new (((((w.alloc (.cells #[.int .u32 0] 24)).alloc (.cells #[.int .i64 0] 29)).alloc (.cells #[.int .u64 0] 72)).alloc (.cells #[.int .u64 0] 72)).alloc (.cells #[.int .i64 0] 3)) 9 (.string s))
  rw[World.size_alloc]at h;rw[World.size_alloc]at h;rw[World.size_alloc]at h;rw[World.size_alloc]at h;rw[World.size_alloc]at h
  exact h
 have hB0:Below w.heap.size w ((((((w.alloc (.cells #[.int .u32 0] 24)).alloc (.cells #[.int .i64 0] 29)).alloc (.cells #[.int .u64 0] 72)).alloc (.cells #[.int .u64 0] 72)).alloc (.cells #[.int .i64 0] 3)).alloc (.cells #[.string s] 9)):=(((((((Below.refl _ w).alloc (by first|exact Nat.le_refl _|(simp only[World.size_alloc];omega)) (.cells #[.int .u32 0] 24)).alloc (by first|exact Nat.le_refl _|(simp only[World.size_alloc];omega)) (.cells #[.int .i64 0] 29)).alloc (by first|exact Nat.le_refl _|(simp only[World.size_alloc];omega)) (.cells #[.int .u64 0] 72)).alloc (by first|exact Nat.le_refl _|(simp only[World.size_alloc];omega)) (.cells #[.int .u64 0] 72)).alloc (by first|exact Nat.le_refl _|(simp only[World.size_alloc];omega)) (.cells #[.int .i64 0] 3)).alloc (by first|exact Nat.le_refl _|(simp only[World.size_alloc];omega)) (.cells #[.string s] 9))
 have hsz:((((((w.alloc (.cells #[.int .u32 0] 24)).alloc (.cells #[.int .i64 0] 29)).alloc (.cells #[.int .u64 0] 72)).alloc (.cells #[.int .u64 0] 72)).alloc (.cells #[.int .i64 0] 3)).alloc (.cells #[.string s] 9)).heap.size=w.heap.size+6:=by simp only[World.size_alloc]
 obtain⟨W0,hW0⟩:∃ W0,((((((w.alloc (.cells #[.int .u32 0] 24)).alloc (.cells #[.int .i64 0] 29)).alloc (.cells #[.int .u64 0] 72)).alloc (.cells #[.int .u64 0] 72)).alloc (.cells #[.int .i64 0] 3)).alloc (.cells #[.string s] 9))=W0:=⟨_,rfl⟩
 rw[hW0]at b0 b1 b2 b3 b4 b5 hB0 hsz ⊢
 clear hW0
 refine wpIn_rangeFunc_ownH (F:=Fence.wide) rfl h1 (gf:=158) (lb:=#[.pointer (some ⟨w.heap.size+5,0,none⟩)]) rfl trivial (enters_of Tryz.func158 (by kernel_rfl) rfl)
  (parts_stops (n-1) (by omega) (w.heap.size+5) w.heap.size s hs W0 b5 hB0.size) KpB.t (KpB.b (by omega) (by omega)) (Below.refl _ _) (fun _=>rfl)
  (PaI w s)
  (PaX w)
  (OwnFrom.and (OwnFrom.and (OwnFrom.and (OwnFrom.and (OwnFrom.and (OwnFrom.and (OwnFrom.and (ownFrom_pure _ _) (Own.from (boxed_own _ _ (fun pre:List Pt=>Value.int .u32 0)) _)) (Own.from (boxed_own _ _ (fun pre:List Pt=>Value.int .i64 0)) _)) (Own.from (boxed_own _ _ (fun pre:List Pt=>Value.int .u64 ((st pre).2.1:Int))) _)) (Own.from (boxed_own _ _ (fun pre:List Pt=>Value.int .u64 ((st pre).2.2:Int))) _)) (Own.from (boxed_own _ _ (fun pre:List Pt=>Value.int .i64 ((st pre).1:Int))) _)) (Own.from (boxed_own _ _ (fun pre:List Pt=>Value.string s)) _)) (ownFrom_below (Nat.le_refl _) (by omega)))
  (fun c=>OwnFrom.and (OwnFrom.and (OwnFrom.and (ownFrom_pure _ _) (Own.from (boxed_own _ _ (fun _:List Pt=>Value.int .u32 0)) _)) (Own.from (boxed_own _ _ (fun _:List Pt=>Value.int .i64 30)) _)) (ownFrom_below (Nat.le_refl _) (by omega)))
  ⟨⟨⟨⟨⟨⟨⟨rfl,b0⟩,b1⟩,b2⟩,b3⟩,b4⟩,b5⟩,hB0⟩
  (fun x a' _=>a' = { tmps:=#[.string s,undef,.pointer (some ⟨w.heap.size,0,none⟩),.pointer (some ⟨w.heap.size+1,0,none⟩),.pointer (some ⟨w.heap.size+2,0,none⟩),.pointer (some ⟨w.heap.size+3,0,none⟩),.pointer (some ⟨w.heap.size+4,0,none⟩),.string x.1,undef,undef,undef,.string s,.func (.func 158) #[] #[.pointer (some ⟨w.heap.size+5,0,none⟩)],.string x.1,undef,undef,undef,undef,undef,undef,undef,undef,undef,undef,undef,undef,undef,undef,undef,undef,undef,undef,undef,undef,undef,undef,undef,undef,undef,undef,undef,undef,undef,undef,undef,undef,undef,undef,undef,undef,undef,undef,undef,undef,undef],defers:=[] })
  (fun _ _ _ _ _ _ hs _ _=>hs)
  ?assign ?body ?done ?stop
 case assign =>
  rintro l' pre x W K hI hK
  simp only[encS]
  gi_wp2
  exact hK _ _ (KeepsFrom.refl _ _) ⟨Below.refl _ _,rfl⟩ hI rfl
 case body =>
  rintro l' pre x a' W hl ⟨r',hr'⟩ ⟨⟨⟨⟨⟨⟨⟨hsm,c0⟩,c1⟩,c2⟩,c3⟩,c4⟩,c5⟩,hB1⟩ rfl hlt
  have hst:=st_some hsm
  obtain⟨c,f,m,hcfm⟩:∃ c f m,st pre=(c,f,m):=⟨_,_,_,rfl⟩
  rw[hcfm]at hst c2 c3 c4
  dsimp only at c2 c3 c4
  have hsn:=pgo_snoc x hst
  have hlim:=pgo_lim _ _ _ _ _ _ _ hst (by omega) (by omega) (by omega)
  have hc4:c<=4:=by
   refine Nat.le_of_not_lt fun h4 => ?_
   have:=pgo_count _ _ _ _ _ _ _ hst
   rw[pgo_long _ _ _ _ (by omega) (by omega)]at hst
   cases hst
  have HN:=Lib.hid (Number_any x.1 W x.2)
  have hsW:=hB1.size
  obtain⟨o,ho⟩:∃ o,num (dl x.1)=o:=⟨_,rfl⟩
  rw[ho]at HN
  rw[show num (dp x)=o from ho]at hsn
  have HL:=Lib.hid hlim
  have HSN:=Lib.hid hsn
  have HST:=Lib.hid hst
  have HCF:=Lib.hid hcfm
  clear hlim hsn hst hcfm hsm hlt
  cases o with
  | none =>
   gi_wp2_with fail
   refine⟨trivial,(fun h=>by cases h),(CallsIn.inRound l' (callsIn_wide.2 HN.out)).mono ?_⟩
   rintro e w1 ⟨rfl,hb1⟩
   have d0:=box_go c0 hb1
   have d1:=box_go c1 hb1
   have hc0:=d0.cell
   have hf0:=d0.frozen
   have e1:=d1.other (B':=w.heap.size) (by omega) (.int .u32 0)
   have hc1:=e1.cell
   have hf1:=e1.frozen
   gi_wp2
   refine⟨((keeps_below hb1).trans ((KeepsOthers.setCell _ _ _).trans (KeepsOthers.setCell _ _ _))).from _,⟨⟨⟨rfl,HSN.out⟩, ?_⟩, ?_⟩, ?_⟩
   ·exact (d0.set _).other (by omega) _
   ·exact e1.set _
   ·exact ((upB hB1 hb1).setCell (p:=⟨w.heap.size,0,none⟩) (Nat.le_refl _) _).setCell (p:=⟨w.heap.size+1,0,none⟩) (Nat.le_succ _) _
  | some k =>
   have hk:=num_le ho
   have HO:=Lib.hid ho
   clear ho
   have hcs:c=4∨c=0∨c=1∨c=2∨c=3:=by omega
   rcases hcs with rfl|rfl|hcs
   ·change Boxed W (w.heap.size+4) 3 (.int .i64 4) at c4
    gi_wp2_with fail
    refine⟨trivial,(fun h=>by cases h),(CallsIn.inRound l' (callsIn_wide.2 HN.out)).mono ?_⟩
    rintro e w1 ⟨rfl,hb1⟩
    have d0:=box_go c0 hb1
    have d1:=box_go c1 hb1
    have d4:=box_go c4 hb1
    have hc4':=d4.cell
    have hc0:=d0.cell
    have hf0:=d0.frozen
    have e1:=d1.other (B':=w.heap.size) (by omega) (.int .u32 0)
    have hc1:=e1.cell
    have hf1:=e1.frozen
    gi_wp2
    refine⟨((keeps_below hb1).trans ((KeepsOthers.setCell _ _ _).trans (KeepsOthers.setCell _ _ _))).from _,⟨⟨⟨rfl,HSN.out⟩, ?_⟩, ?_⟩, ?_⟩
    ·exact (d0.set _).other (by omega) _
    ·exact e1.set _
    ·exact ((upB hB1 hb1).setCell (p:=⟨w.heap.size,0,none⟩) (Nat.le_refl _) _).setCell (p:=⟨w.heap.size+1,0,none⟩) (Nat.le_succ _) _
   ·change Boxed W (w.heap.size+4) 3 (.int .i64 0) at c4
    gi_wp2_with fail
    refine⟨trivial,(fun h=>by cases h),(CallsIn.inRound l' (callsIn_wide.2 HN.out)).mono ?_⟩
    rintro e w1 ⟨rfl,hb1⟩
    have d0:=box_go c0 hb1
    have d1:=box_go c1 hb1
    have d2:=box_go c2 hb1
    have d3:=box_go c3 hb1
    have d4:=box_go c4 hb1
    have d5:=box_go c5 hb1
    have hc4':=d4.cell
    have hc3:=d3.cell
    have hf3:=d3.frozen
    have e4:=d4.other (B':=w.heap.size+3) (by omega) (.int .u64 (k:Int))
    have hc4'':=e4.cell
    have hf4'':=e4.frozen
    gi_wp2
    have hp:pgo 0 0 0 ((pre++[x]).map dp)=some (1,f,k):=HSN.out.trans (rfl)
    have HE:=st_of hp
    have a0:=((d0.other (B':=w.heap.size+3) (by omega) (.int .u64 (k:Int))).other (B':=w.heap.size+4) (by omega) (.int .i64 1))
    have a1:=((d1.other (B':=w.heap.size+3) (by omega) (.int .u64 (k:Int))).other (B':=w.heap.size+4) (by omega) (.int .i64 1))
    have a2:=((d2.other (B':=w.heap.size+3) (by omega) (.int .u64 (k:Int))).other (B':=w.heap.size+4) (by omega) (.int .i64 1))
    have a3:=((d3.set (.int .u64 (k:Int))).other (B':=w.heap.size+4) (by omega) (.int .i64 1))
    have a4:=((d4.other (B':=w.heap.size+3) (by omega) (.int .u64 (k:Int))).set (.int .i64 1))
    have a5:=((d5.other (B':=w.heap.size+3) (by omega) (.int .u64 (k:Int))).other (B':=w.heap.size+4) (by omega) (.int .i64 1))
    refine⟨(((keeps_below hb1).trans (KeepsOthers.setCell _ _ _)).trans (KeepsOthers.setCell _ _ _)).from _,⟨(((hb1.mono hsW).setCell (p:=⟨w.heap.size+3,0,none⟩) (by simp) (.int .u64 (k:Int))).setCell (p:=⟨w.heap.size+4,0,none⟩) (by simp) (.int .i64 1)),a5.trans c5.symm⟩,⟨⟨⟨⟨⟨⟨⟨by rw[hp];rfl,a0⟩,a1⟩,by rw[HE];exact a2⟩,by rw[HE];exact a3⟩,by rw[HE];exact a4⟩,a5⟩,(((upB hB1 hb1).setCell (p:=⟨w.heap.size+3,0,none⟩) (by simp) (.int .u64 (k:Int))).setCell (p:=⟨w.heap.size+4,0,none⟩) (by simp) (.int .i64 1))⟩⟩
   ·have hkk:k<=255∨255<k:=by omega
    rcases hkk with hkl|hkl
    ·rcases hcs with rfl|rfl|rfl
     ·change Boxed W (w.heap.size+4) 3 (.int .i64 1) at c4
      gi_wp2_with fail
      refine⟨trivial,(fun h=>by cases h),(CallsIn.inRound l' (callsIn_wide.2 HN.out)).mono ?_⟩
      rintro e w1 ⟨rfl,hb1⟩
      have d0:=box_go c0 hb1
      have d1:=box_go c1 hb1
      have d2:=box_go c2 hb1
      have d3:=box_go c3 hb1
      have d4:=box_go c4 hb1
      have d5:=box_go c5 hb1
      have hc2:=d2.cell
      have hf2:=d2.frozen
      have hc4':=d4.cell
      have hfl:f<2 ^ 0:=HL.out.2.1 (by decide)
      obtain⟨v,hv0⟩:∃ v,f+k*256 ^ (1-1)=v:=⟨_,rfl⟩
      have HV0:=Lib.hid hv0
      have HV:Hid (bits .or .u64 (f:Int) (IntKind.u64.wrap (k:Int))=(v:Int)):=Lib.hid (by
       rw[<-hv0,show (k:Int)=((k*1:Nat):Int) by simp,IntKind.wrap_u64,Int.emod_eq_of_lt (by omega) (by omega),u64_or_nat _ _ (by omega) (by omega),show 1=2 ^ 0 from rfl,or_add f k 0 hfl])
      clear hv0
      gi_upto_region 6 with fail
      refine wpIn_then fun K hK => ?_
      gi_cut [] from 19 (fun wc=>wc=(w1.setCell ⟨w.heap.size+2,0,none⟩ (.int .u64 (bits .or .u64 (f:Int) (IntKind.u64.wrap (k:Int))))).drew)
      case first =>
       rename_i J K' hJ hK'
       have z0:IntKind.i64.wrap 0=0:=by decide
       gi_region
       all_goals
        refine hK' _ _ (Met.intro (hJ _ _ ?_))
        (repeat apply Exists.intro)
        exact⟨rfl,rfl⟩
      case rest =>
       subst hcut
       refine hK _ _ ?_
       rw[HV.out]
       have e4:=d4.other (B':=w.heap.size+2) (by omega) (.int .u64 (v:Int))
       have hc4'':=e4.cell
       have hf4'':=e4.frozen
       clear hc2 hf2 hc4'
       gi_wp2
       have hp:pgo 0 0 0 ((pre++[x]).map dp)=some (2,v,m):=HSN.out.trans (by
        show (if (1:Nat)=4 then none else if (1:Nat)=0 then some (1,f,k) else if 255<k then none else some (1+1,f+k*256 ^ (1-1),m))=_
        rw[if_neg (by decide),if_neg (by decide),if_neg (by omega),HV0.out])
       have HE:=st_of hp
       have kd:KeepsOthers (w1.setCell ⟨w.heap.size+2,0,none⟩ (.int .u64 (v:Int))) (w1.setCell ⟨w.heap.size+2,0,none⟩ (.int .u64 (v:Int))).drew:=⟨Nat.le_refl _,fun _ _ h _=>h⟩
       have g0:Boxed (w1.setCell ⟨w.heap.size+2,0,none⟩ (.int .u64 (v:Int))).drew w.heap.size 24 (.int .u32 0):=(d0.other (B':=w.heap.size+2) (by omega) (.int .u64 (v:Int)))
       have a0:=(g0.other (B':=w.heap.size+4) (by omega) (.int .i64 2))
       have g1:Boxed (w1.setCell ⟨w.heap.size+2,0,none⟩ (.int .u64 (v:Int))).drew (w.heap.size+1) 29 (.int .i64 0):=(d1.other (B':=w.heap.size+2) (by omega) (.int .u64 (v:Int)))
       have a1:=(g1.other (B':=w.heap.size+4) (by omega) (.int .i64 2))
       have g2:Boxed (w1.setCell ⟨w.heap.size+2,0,none⟩ (.int .u64 (v:Int))).drew (w.heap.size+2) 72 (.int .u64 (v:Int)):=(d2.set (.int .u64 (v:Int)))
       have a2:=(g2.other (B':=w.heap.size+4) (by omega) (.int .i64 2))
       have g3:Boxed (w1.setCell ⟨w.heap.size+2,0,none⟩ (.int .u64 (v:Int))).drew (w.heap.size+3) 72 (.int .u64 (m:Int)):=(d3.other (B':=w.heap.size+2) (by omega) (.int .u64 (v:Int)))
       have a3:=(g3.other (B':=w.heap.size+4) (by omega) (.int .i64 2))
       have g4:Boxed (w1.setCell ⟨w.heap.size+2,0,none⟩ (.int .u64 (v:Int))).drew (w.heap.size+4) 3 (.int .i64 1):=(d4.other (B':=w.heap.size+2) (by omega) (.int .u64 (v:Int)))
       have a4:=(g4.set (.int .i64 2))
       have g5:Boxed (w1.setCell ⟨w.heap.size+2,0,none⟩ (.int .u64 (v:Int))).drew (w.heap.size+5) 9 (.string s):=(d5.other (B':=w.heap.size+2) (by omega) (.int .u64 (v:Int)))
       have a5:=(g5.other (B':=w.heap.size+4) (by omega) (.int .i64 2))
       refine⟨((keeps_below hb1).trans ((KeepsOthers.setCell _ _ _).trans (kd.trans (KeepsOthers.setCell _ _ _)))).from _,⟨(((hb1.mono hsW).setCell (p:=⟨w.heap.size+2,0,none⟩) (by simp) (.int .u64 (v:Int))).drew.setCell (p:=⟨w.heap.size+4,0,none⟩) (by simp) (.int .i64 2)),a5.trans c5.symm⟩,⟨⟨⟨⟨⟨⟨⟨by rw[hp];rfl,a0⟩,a1⟩,by rw[HE];exact a2⟩,by rw[HE];exact a3⟩,by rw[HE];exact a4⟩,a5⟩,(((upB hB1 hb1).setCell (p:=⟨w.heap.size+2,0,none⟩) (by simp) (.int .u64 (v:Int))).drew.setCell (p:=⟨w.heap.size+4,0,none⟩) (by simp) (.int .i64 2))⟩⟩
     ·change Boxed W (w.heap.size+4) 3 (.int .i64 2) at c4
      gi_wp2_with fail
      refine⟨trivial,(fun h=>by cases h),(CallsIn.inRound l' (callsIn_wide.2 HN.out)).mono ?_⟩
      rintro e w1 ⟨rfl,hb1⟩
      have d0:=box_go c0 hb1
      have d1:=box_go c1 hb1
      have d2:=box_go c2 hb1
      have d3:=box_go c3 hb1
      have d4:=box_go c4 hb1
      have d5:=box_go c5 hb1
      have hc2:=d2.cell
      have hf2:=d2.frozen
      have hc4':=d4.cell
      have hfl:f<2 ^ 8:=HL.out.2.1 (by decide)
      obtain⟨v,hv0⟩:∃ v,f+k*256 ^ (2-1)=v:=⟨_,rfl⟩
      have HV0:=Lib.hid hv0
      have HV:Hid (bits .or .u64 (f:Int) (IntKind.u64.wrap ((k:Int)*256))=(v:Int)):=Lib.hid (by
       rw[<-hv0,show ((k:Int)*256)=((k*256:Nat):Int) by simp,IntKind.wrap_u64,Int.emod_eq_of_lt (by omega) (by omega),u64_or_nat _ _ (by omega) (by omega),show 256=2 ^ 8 from rfl,or_add f k 8 hfl])
      clear hv0
      gi_upto_region 6 with fail
      refine wpIn_then fun K hK => ?_
      gi_cut [] from 19 (fun wc=>wc=(w1.setCell ⟨w.heap.size+2,0,none⟩ (.int .u64 (bits .or .u64 (f:Int) (IntKind.u64.wrap ((k:Int)*256))))).drew)
      case first =>
       rename_i J K' hJ hK'
       have z0:IntKind.i64.wrap 1=1:=by decide
       have z8:IntKind.i64.wrap 8=8:=by decide
       gi_region
       all_goals
        refine hK' _ _ (Met.intro (hJ _ _ ?_))
        (repeat apply Exists.intro)
        exact⟨rfl,rfl⟩
      case rest =>
       subst hcut
       refine hK _ _ ?_
       rw[HV.out]
       have e4:=d4.other (B':=w.heap.size+2) (by omega) (.int .u64 (v:Int))
       have hc4'':=e4.cell
       have hf4'':=e4.frozen
       clear hc2 hf2 hc4'
       gi_wp2
       have hp:pgo 0 0 0 ((pre++[x]).map dp)=some (3,v,m):=HSN.out.trans (by
        show (if (2:Nat)=4 then none else if (2:Nat)=0 then some (1,f,k) else if 255<k then none else some (2+1,f+k*256 ^ (2-1),m))=_
        rw[if_neg (by decide),if_neg (by decide),if_neg (by omega),HV0.out])
       have HE:=st_of hp
       have kd:KeepsOthers (w1.setCell ⟨w.heap.size+2,0,none⟩ (.int .u64 (v:Int))) (w1.setCell ⟨w.heap.size+2,0,none⟩ (.int .u64 (v:Int))).drew:=⟨Nat.le_refl _,fun _ _ h _=>h⟩
       have g0:Boxed (w1.setCell ⟨w.heap.size+2,0,none⟩ (.int .u64 (v:Int))).drew w.heap.size 24 (.int .u32 0):=(d0.other (B':=w.heap.size+2) (by omega) (.int .u64 (v:Int)))
       have a0:=(g0.other (B':=w.heap.size+4) (by omega) (.int .i64 3))
       have g1:Boxed (w1.setCell ⟨w.heap.size+2,0,none⟩ (.int .u64 (v:Int))).drew (w.heap.size+1) 29 (.int .i64 0):=(d1.other (B':=w.heap.size+2) (by omega) (.int .u64 (v:Int)))
       have a1:=(g1.other (B':=w.heap.size+4) (by omega) (.int .i64 3))
       have g2:Boxed (w1.setCell ⟨w.heap.size+2,0,none⟩ (.int .u64 (v:Int))).drew (w.heap.size+2) 72 (.int .u64 (v:Int)):=(d2.set (.int .u64 (v:Int)))
       have a2:=(g2.other (B':=w.heap.size+4) (by omega) (.int .i64 3))
       have g3:Boxed (w1.setCell ⟨w.heap.size+2,0,none⟩ (.int .u64 (v:Int))).drew (w.heap.size+3) 72 (.int .u64 (m:Int)):=(d3.other (B':=w.heap.size+2) (by omega) (.int .u64 (v:Int)))
       have a3:=(g3.other (B':=w.heap.size+4) (by omega) (.int .i64 3))
       have g4:Boxed (w1.setCell ⟨w.heap.size+2,0,none⟩ (.int .u64 (v:Int))).drew (w.heap.size+4) 3 (.int .i64 2):=(d4.other (B':=w.heap.size+2) (by omega) (.int .u64 (v:Int)))
       have a4:=(g4.set (.int .i64 3))
       have g5:Boxed (w1.setCell ⟨w.heap.size+2,0,none⟩ (.int .u64 (v:Int))).drew (w.heap.size+5) 9 (.string s):=(d5.other (B':=w.heap.size+2) (by omega) (.int .u64 (v:Int)))
       have a5:=(g5.other (B':=w.heap.size+4) (by omega) (.int .i64 3))
       refine⟨((keeps_below hb1).trans ((KeepsOthers.setCell _ _ _).trans (kd.trans (KeepsOthers.setCell _ _ _)))).from _,⟨(((hb1.mono hsW).setCell (p:=⟨w.heap.size+2,0,none⟩) (by simp) (.int .u64 (v:Int))).drew.setCell (p:=⟨w.heap.size+4,0,none⟩) (by simp) (.int .i64 3)),a5.trans c5.symm⟩,⟨⟨⟨⟨⟨⟨⟨by rw[hp];rfl,a0⟩,a1⟩,by rw[HE];exact a2⟩,by rw[HE];exact a3⟩,by rw[HE];exact a4⟩,a5⟩,(((upB hB1 hb1).setCell (p:=⟨w.heap.size+2,0,none⟩) (by simp) (.int .u64 (v:Int))).drew.setCell (p:=⟨w.heap.size+4,0,none⟩) (by simp) (.int .i64 3))⟩⟩
     ·change Boxed W (w.heap.size+4) 3 (.int .i64 3) at c4
      gi_wp2_with fail
      refine⟨trivial,(fun h=>by cases h),(CallsIn.inRound l' (callsIn_wide.2 HN.out)).mono ?_⟩
      rintro e w1 ⟨rfl,hb1⟩
      have d0:=box_go c0 hb1
      have d1:=box_go c1 hb1
      have d2:=box_go c2 hb1
      have d3:=box_go c3 hb1
      have d4:=box_go c4 hb1
      have d5:=box_go c5 hb1
      have hc2:=d2.cell
      have hf2:=d2.frozen
      have hc4':=d4.cell
      have hfl:f<2 ^ 16:=HL.out.2.1 (by decide)
      obtain⟨v,hv0⟩:∃ v,f+k*256 ^ (3-1)=v:=⟨_,rfl⟩
      have HV0:=Lib.hid hv0
      have HV:Hid (bits .or .u64 (f:Int) (IntKind.u64.wrap ((k:Int)*65536))=(v:Int)):=Lib.hid (by
       rw[<-hv0,show ((k:Int)*65536)=((k*65536:Nat):Int) by simp,IntKind.wrap_u64,Int.emod_eq_of_lt (by omega) (by omega),u64_or_nat _ _ (by omega) (by omega),show 65536=2 ^ 16 from rfl,or_add f k 16 hfl])
      clear hv0
      gi_upto_region 6 with fail
      refine wpIn_then fun K hK => ?_
      gi_cut [] from 19 (fun wc=>wc=(w1.setCell ⟨w.heap.size+2,0,none⟩ (.int .u64 (bits .or .u64 (f:Int) (IntKind.u64.wrap ((k:Int)*65536))))).drew)
      case first =>
       rename_i J K' hJ hK'
       have z0:IntKind.i64.wrap 2=2:=by decide
       have z8:IntKind.i64.wrap 16=16:=by decide
       gi_region
       all_goals
        refine hK' _ _ (Met.intro (hJ _ _ ?_))
        (repeat apply Exists.intro)
        exact⟨rfl,rfl⟩
      case rest =>
       subst hcut
       refine hK _ _ ?_
       rw[HV.out]
       have e4:=d4.other (B':=w.heap.size+2) (by omega) (.int .u64 (v:Int))
       have hc4'':=e4.cell
       have hf4'':=e4.frozen
       clear hc2 hf2 hc4'
       gi_wp2
       have hp:pgo 0 0 0 ((pre++[x]).map dp)=some (4,v,m):=HSN.out.trans (by
        show (if (3:Nat)=4 then none else if (3:Nat)=0 then some (1,f,k) else if 255<k then none else some (3+1,f+k*256 ^ (3-1),m))=_
        rw[if_neg (by decide),if_neg (by decide),if_neg (by omega),HV0.out])
       have HE:=st_of hp
       have kd:KeepsOthers (w1.setCell ⟨w.heap.size+2,0,none⟩ (.int .u64 (v:Int))) (w1.setCell ⟨w.heap.size+2,0,none⟩ (.int .u64 (v:Int))).drew:=⟨Nat.le_refl _,fun _ _ h _=>h⟩
       have g0:Boxed (w1.setCell ⟨w.heap.size+2,0,none⟩ (.int .u64 (v:Int))).drew w.heap.size 24 (.int .u32 0):=(d0.other (B':=w.heap.size+2) (by omega) (.int .u64 (v:Int)))
       have a0:=(g0.other (B':=w.heap.size+4) (by omega) (.int .i64 4))
       have g1:Boxed (w1.setCell ⟨w.heap.size+2,0,none⟩ (.int .u64 (v:Int))).drew (w.heap.size+1) 29 (.int .i64 0):=(d1.other (B':=w.heap.size+2) (by omega) (.int .u64 (v:Int)))
       have a1:=(g1.other (B':=w.heap.size+4) (by omega) (.int .i64 4))
       have g2:Boxed (w1.setCell ⟨w.heap.size+2,0,none⟩ (.int .u64 (v:Int))).drew (w.heap.size+2) 72 (.int .u64 (v:Int)):=(d2.set (.int .u64 (v:Int)))
       have a2:=(g2.other (B':=w.heap.size+4) (by omega) (.int .i64 4))
       have g3:Boxed (w1.setCell ⟨w.heap.size+2,0,none⟩ (.int .u64 (v:Int))).drew (w.heap.size+3) 72 (.int .u64 (m:Int)):=(d3.other (B':=w.heap.size+2) (by omega) (.int .u64 (v:Int)))
       have a3:=(g3.other (B':=w.heap.size+4) (by omega) (.int .i64 4))
       have g4:Boxed (w1.setCell ⟨w.heap.size+2,0,none⟩ (.int .u64 (v:Int))).drew (w.heap.size+4) 3 (.int .i64 3):=(d4.other (B':=w.heap.size+2) (by omega) (.int .u64 (v:Int)))
       have a4:=(g4.set (.int .i64 4))
       have g5:Boxed (w1.setCell ⟨w.heap.size+2,0,none⟩ (.int .u64 (v:Int))).drew (w.heap.size+5) 9 (.string s):=(d5.other (B':=w.heap.size+2) (by omega) (.int .u64 (v:Int)))
       have a5:=(g5.other (B':=w.heap.size+4) (by omega) (.int .i64 4))
       refine⟨((keeps_below hb1).trans ((KeepsOthers.setCell _ _ _).trans (kd.trans (KeepsOthers.setCell _ _ _)))).from _,⟨(((hb1.mono hsW).setCell (p:=⟨w.heap.size+2,0,none⟩) (by simp) (.int .u64 (v:Int))).drew.setCell (p:=⟨w.heap.size+4,0,none⟩) (by simp) (.int .i64 4)),a5.trans c5.symm⟩,⟨⟨⟨⟨⟨⟨⟨by rw[hp];rfl,a0⟩,a1⟩,by rw[HE];exact a2⟩,by rw[HE];exact a3⟩,by rw[HE];exact a4⟩,a5⟩,(((upB hB1 hb1).setCell (p:=⟨w.heap.size+2,0,none⟩) (by simp) (.int .u64 (v:Int))).drew.setCell (p:=⟨w.heap.size+4,0,none⟩) (by simp) (.int .i64 4))⟩⟩
    ·have HC:Hid (c=1∨c=2∨c=3):=Lib.hid hcs
     have hce:((c:Int)==4)=false:=by simp;omega
     have hcz:((c:Int)==0)=false:=by simp;omega
     have HNN:Hid (pgo 0 0 0 ((pre++[x]).map dp)=none):=Lib.hid (HSN.out.trans (by
      show (if c=4 then none else if c=0 then _ else if 255<k then none else _)=none
      rw[if_neg (by omega),if_neg (by omega),if_pos hkl]))
     clear HSN hcs
     have HSN:=HNN
     gi_wp2_with fail
     refine⟨trivial,(fun h=>by cases h),(CallsIn.inRound l' (callsIn_wide.2 HN.out)).mono ?_⟩
     rintro e w1 ⟨rfl,hb1⟩
     have d0:=box_go c0 hb1
     have d1:=box_go c1 hb1
     have d4:=box_go c4 hb1
     have hc4':=d4.cell
     have hc0:=d0.cell
     have hf0:=d0.frozen
     have e1:=d1.other (B':=w.heap.size) (by omega) (.int .u32 0)
     have hc1:=e1.cell
     have hf1:=e1.frozen
     gi_wp2
     refine⟨((keeps_below hb1).trans ((KeepsOthers.setCell _ _ _).trans (KeepsOthers.setCell _ _ _))).from _,⟨⟨⟨rfl,HSN.out⟩, ?_⟩, ?_⟩, ?_⟩
     ·exact (d0.set _).other (by omega) _
     ·exact e1.set _
     ·exact ((upB hB1 hb1).setCell (p:=⟨w.heap.size,0,none⟩) (Nat.le_refl _) _).setCell (p:=⟨w.heap.size+1,0,none⟩) (Nat.le_succ _) _
 case done =>
  rintro D ys W hD hys ⟨⟨⟨⟨⟨⟨⟨hsm,c0⟩,c1⟩,c2⟩,c3⟩,c4⟩,c5⟩,hB1⟩ hK
  have hst:=st_some hsm
  obtain⟨c,f,m,hcfm⟩:∃ c f m,st ys=(c,f,m):=⟨_,_,_,rfl⟩
  rw[hcfm]at hst c2 c3 c4
  dsimp only at c2 c3 c4
  have hans:ans (dl s)=fit (c,f,m):=by
   unfold ans prs
   rw[<-hys,hst]
   rfl
  have hlim:=pgo_lim _ _ _ _ _ _ _ hst (by omega) (by omega) (by omega)
  have hcount:=pgo_count _ _ _ _ _ _ _ hst
  have hpos:0<(ys.map dp).length:=by rw[hys];exact List.length_pos_iff.2 (rpt_ne _)
  have hc4:c<=4:=by
   refine Nat.le_of_not_lt fun h4 => ?_
   rw[pgo_long _ _ _ _ (by omega) (by omega)]at hst
   cases hst
  have hcs:c=1∨c=2∨c=3∨c=4:=by omega
  have HA:=Lib.hid hans
  have HL:=Lib.hid hlim
  clear hans hlim hcount hpos hst hcfm hys hsm
  have hml:=HL.out.2.2
  have hc2:=c2.cell
  have hc3:=c3.cell
  have hc0:=c0.cell
  have hf0:=c0.frozen
  have e1:=c1.other (B':=w.heap.size) (by omega) (.int .u32 0)
  have hc1:=e1.cell
  have hf1:=e1.frozen
  rcases hcs with rfl|rfl|rfl|rfl
  ·change Boxed W (w.heap.size+4) 3 (.int .i64 1) at c4
   have hc4':=c4.cell
   have hfl:f<2 ^ 0:=HL.out.2.1 (by decide)
   by_cases hm:m<4294967296
   ·obtain⟨v,hv0⟩:∃ v,f*256 ^ (5-1)+m=v:=⟨_,rfl⟩
    have HX:Hid (ans (dl s)=some v):=Lib.hid (HA.out.trans (by
     show (if m<256 ^ (5-1) then some (f*256 ^ (5-1)+m) else none)=_
     rw[if_pos hm,hv0]))
    have HV:Hid (bits .or .u64 ((f:Int)*4294967296) (m:Int)%4294967296=(v:Int)):=Lib.hid (by
     rw[<-hv0]
     exact or_val f m 32 4294967296 rfl hm (by omega))
    clear hv0
    have hq1:=fun v=>(c1.other (B':=w.heap.size) (by omega) v).cell
    have hq2:=fun v=>(c1.other (B':=w.heap.size) (by omega) v).frozen
    clear hc1 hf1
    gi_wp2
    gi_cut [] from 49 (fun wc=>wc=((W.setCell ⟨w.heap.size,0,none⟩ (.int .u32 (bits .or .u64 ((f:Int)*4294967296) (m:Int)%4294967296))).setCell ⟨w.heap.size+1,0,none⟩ (.int .i64 0)).drew)
    case first =>
     rename_i J K' hJ hK'
     gi_region
     all_goals
      refine hK' _ _ (Met.intro (hJ _ _ ?_))
      (repeat apply Exists.intro)
      exact⟨rfl,rfl⟩
    case rest =>
     subst hcut
     rw[HV.out]
     have a0:=(c0.set (.int .u32 (v:Int))).other (B':=w.heap.size+1) (by omega) (.int .i64 0)
     have a1:=(c1.other (B':=w.heap.size) (by omega) (.int .u32 (v:Int))).set (.int .i64 0)
     have hK1:=(KeepsOthers.setCell W ⟨w.heap.size,0,none⟩ (.int .u32 (v:Int))).same D _ hK rfl
     have hK2:=(KeepsOthers.setCell _ ⟨w.heap.size+1,0,none⟩ (.int .i64 0)).same D _ hK1 rfl
     have hBe:=((hB1.setCell (p:=⟨w.heap.size,0,none⟩) (Nat.le_refl _) (.int .u32 (v:Int))).setCell (p:=⟨w.heap.size+1,0,none⟩) (Nat.le_succ _) (.int .i64 0)).drew
     obtain⟨WE,hWE⟩:∃ WE,((W.setCell ⟨w.heap.size,0,none⟩ (.int .u32 (v:Int))).setCell ⟨w.heap.size+1,0,none⟩ (.int .i64 0)).drew=WE:=⟨_,rfl⟩
     have a0:Boxed WE w.heap.size 24 (.int .u32 (v:Int)):=by rw[<-hWE];exact a0
     have a1:Boxed WE (w.heap.size+1) 29 (.int .i64 0):=by rw[<-hWE];exact a1
     have hK2:WE.heap[D]? = some (Obj.deferred (some [])):=by rw[<-hWE];exact hK2
     rw[hWE]at hBe
     rw[hWE]
     clear hc0 hf0 hc2 hc3 hc4' hq1 hq2 hWE
     gi_wp2
     refine⟨by simp,.inl ⟨_,_,rfl,run_takeDeferred hK2, ?_⟩⟩
     have hb5:=cell_kept a0.cell (grownBy_putObj' _ D (.deferred none)) (fun r e=>by cases e;exact⟨_,hK2,rfl⟩)
     have hb6:=cell_kept a1.cell (grownBy_putObj' _ D (.deferred none)) (fun r e=>by cases e;exact⟨_,hK2,rfl⟩)
     exact⟨.tuple #[.int .u32 (v:Int),.int .i64 0],by simp[results,Tryz.f89,go_sem,hb5,hb6],parsed_some HX.out (hBe.trans (belowK_b (w:=w) (Nat.le_refl _) _ D _ _ (by omega) hK2 rfl rfl))⟩
   ·have HX:Hid (ans (dl s)=none):=Lib.hid (HA.out.trans (by
     show (if m<256 ^ (5-1) then some (f*256 ^ (5-1)+m) else none)=_
     rw[if_neg hm]))
    gi_wp2
    have a0:=(c0.set (.int .u32 0)).other (B':=w.heap.size+1) (by omega) (.int .i64 30)
    have a1:=(c1.other (B':=w.heap.size) (by omega) (.int .u32 0)).set (.int .i64 30)
    have hK1:=(KeepsOthers.setCell W ⟨w.heap.size,0,none⟩ (.int .u32 0)).same D _ hK rfl
    have hK2:=(KeepsOthers.setCell _ ⟨w.heap.size+1,0,none⟩ (.int .i64 30)).same D _ hK1 rfl
    have hBe:=(hB1.setCell (p:=⟨w.heap.size,0,none⟩) (Nat.le_refl _) (.int .u32 0)).setCell (p:=⟨w.heap.size+1,0,none⟩) (Nat.le_succ _) (.int .i64 30)
    refine⟨by simp,.inl ⟨_,_,rfl,run_takeDeferred hK2, ?_⟩⟩
    have hb5:=cell_kept a0.cell (grownBy_putObj' _ D (.deferred none)) (fun r e=>by cases e;exact⟨_,hK2,rfl⟩)
    have hb6:=cell_kept a1.cell (grownBy_putObj' _ D (.deferred none)) (fun r e=>by cases e;exact⟨_,hK2,rfl⟩)
    exact⟨.tuple #[.int .u32 0,.int .i64 30],by simp[results,Tryz.f89,go_sem,hb5,hb6],parsed_none HX.out (hBe.trans (belowK_b (w:=w) (Nat.le_refl _) _ D _ _ (by omega) hK2 rfl rfl))⟩
  ·change Boxed W (w.heap.size+4) 3 (.int .i64 2) at c4
   have hc4':=c4.cell
   have hfl:f<2 ^ 8:=HL.out.2.1 (by decide)
   by_cases hm:m<16777216
   ·obtain⟨v,hv0⟩:∃ v,f*256 ^ (5-2)+m=v:=⟨_,rfl⟩
    have HX:Hid (ans (dl s)=some v):=Lib.hid (HA.out.trans (by
     show (if m<256 ^ (5-2) then some (f*256 ^ (5-2)+m) else none)=_
     rw[if_pos hm,hv0]))
    have HV:Hid (bits .or .u64 ((f:Int)*16777216) (m:Int)%4294967296=(v:Int)):=Lib.hid (by
     rw[<-hv0]
     exact or_val f m 24 16777216 rfl hm (by omega))
    clear hv0
    have hq1:=fun v=>(c1.other (B':=w.heap.size) (by omega) v).cell
    have hq2:=fun v=>(c1.other (B':=w.heap.size) (by omega) v).frozen
    clear hc1 hf1
    gi_wp2
    gi_cut [] from 49 (fun wc=>wc=((W.setCell ⟨w.heap.size,0,none⟩ (.int .u32 (bits .or .u64 ((f:Int)*16777216) (m:Int)%4294967296))).setCell ⟨w.heap.size+1,0,none⟩ (.int .i64 0)).drew)
    case first =>
     rename_i J K' hJ hK'
     gi_region
     all_goals
      refine hK' _ _ (Met.intro (hJ _ _ ?_))
      (repeat apply Exists.intro)
      exact⟨rfl,rfl⟩
    case rest =>
     subst hcut
     rw[HV.out]
     have a0:=(c0.set (.int .u32 (v:Int))).other (B':=w.heap.size+1) (by omega) (.int .i64 0)
     have a1:=(c1.other (B':=w.heap.size) (by omega) (.int .u32 (v:Int))).set (.int .i64 0)
     have hK1:=(KeepsOthers.setCell W ⟨w.heap.size,0,none⟩ (.int .u32 (v:Int))).same D _ hK rfl
     have hK2:=(KeepsOthers.setCell _ ⟨w.heap.size+1,0,none⟩ (.int .i64 0)).same D _ hK1 rfl
     have hBe:=((hB1.setCell (p:=⟨w.heap.size,0,none⟩) (Nat.le_refl _) (.int .u32 (v:Int))).setCell (p:=⟨w.heap.size+1,0,none⟩) (Nat.le_succ _) (.int .i64 0)).drew
     obtain⟨WE,hWE⟩:∃ WE,((W.setCell ⟨w.heap.size,0,none⟩ (.int .u32 (v:Int))).setCell ⟨w.heap.size+1,0,none⟩ (.int .i64 0)).drew=WE:=⟨_,rfl⟩
     have a0:Boxed WE w.heap.size 24 (.int .u32 (v:Int)):=by rw[<-hWE];exact a0
     have a1:Boxed WE (w.heap.size+1) 29 (.int .i64 0):=by rw[<-hWE];exact a1
     have hK2:WE.heap[D]? = some (Obj.deferred (some [])):=by rw[<-hWE];exact hK2
     rw[hWE]at hBe
     rw[hWE]
     clear hc0 hf0 hc2 hc3 hc4' hq1 hq2 hWE
     gi_wp2
     refine⟨by simp,.inl ⟨_,_,rfl,run_takeDeferred hK2, ?_⟩⟩
     have hb5:=cell_kept a0.cell (grownBy_putObj' _ D (.deferred none)) (fun r e=>by cases e;exact⟨_,hK2,rfl⟩)
     have hb6:=cell_kept a1.cell (grownBy_putObj' _ D (.deferred none)) (fun r e=>by cases e;exact⟨_,hK2,rfl⟩)
     exact⟨.tuple #[.int .u32 (v:Int),.int .i64 0],by simp[results,Tryz.f89,go_sem,hb5,hb6],parsed_some HX.out (hBe.trans (belowK_b (w:=w) (Nat.le_refl _) _ D _ _ (by omega) hK2 rfl rfl))⟩
   ·have HX:Hid (ans (dl s)=none):=Lib.hid (HA.out.trans (by
     show (if m<256 ^ (5-2) then some (f*256 ^ (5-2)+m) else none)=_
     rw[if_neg hm]))
    gi_wp2
    have a0:=(c0.set (.int .u32 0)).other (B':=w.heap.size+1) (by omega) (.int .i64 30)
    have a1:=(c1.other (B':=w.heap.size) (by omega) (.int .u32 0)).set (.int .i64 30)
    have hK1:=(KeepsOthers.setCell W ⟨w.heap.size,0,none⟩ (.int .u32 0)).same D _ hK rfl
    have hK2:=(KeepsOthers.setCell _ ⟨w.heap.size+1,0,none⟩ (.int .i64 30)).same D _ hK1 rfl
    have hBe:=(hB1.setCell (p:=⟨w.heap.size,0,none⟩) (Nat.le_refl _) (.int .u32 0)).setCell (p:=⟨w.heap.size+1,0,none⟩) (Nat.le_succ _) (.int .i64 30)
    refine⟨by simp,.inl ⟨_,_,rfl,run_takeDeferred hK2, ?_⟩⟩
    have hb5:=cell_kept a0.cell (grownBy_putObj' _ D (.deferred none)) (fun r e=>by cases e;exact⟨_,hK2,rfl⟩)
    have hb6:=cell_kept a1.cell (grownBy_putObj' _ D (.deferred none)) (fun r e=>by cases e;exact⟨_,hK2,rfl⟩)
    exact⟨.tuple #[.int .u32 0,.int .i64 30],by simp[results,Tryz.f89,go_sem,hb5,hb6],parsed_none HX.out (hBe.trans (belowK_b (w:=w) (Nat.le_refl _) _ D _ _ (by omega) hK2 rfl rfl))⟩
  ·change Boxed W (w.heap.size+4) 3 (.int .i64 3) at c4
   have hc4':=c4.cell
   have hfl:f<2 ^ 16:=HL.out.2.1 (by decide)
   by_cases hm:m<65536
   ·obtain⟨v,hv0⟩:∃ v,f*256 ^ (5-3)+m=v:=⟨_,rfl⟩
    have HX:Hid (ans (dl s)=some v):=Lib.hid (HA.out.trans (by
     show (if m<256 ^ (5-3) then some (f*256 ^ (5-3)+m) else none)=_
     rw[if_pos hm,hv0]))
    have HV:Hid (bits .or .u64 ((f:Int)*65536) (m:Int)%4294967296=(v:Int)):=Lib.hid (by
     rw[<-hv0]
     exact or_val f m 16 65536 rfl hm (by omega))
    clear hv0
    have hq1:=fun v=>(c1.other (B':=w.heap.size) (by omega) v).cell
    have hq2:=fun v=>(c1.other (B':=w.heap.size) (by omega) v).frozen
    clear hc1 hf1
    gi_wp2
    gi_cut [] from 49 (fun wc=>wc=((W.setCell ⟨w.heap.size,0,none⟩ (.int .u32 (bits .or .u64 ((f:Int)*65536) (m:Int)%4294967296))).setCell ⟨w.heap.size+1,0,none⟩ (.int .i64 0)).drew)
    case first =>
     rename_i J K' hJ hK'
     gi_region
     all_goals
      refine hK' _ _ (Met.intro (hJ _ _ ?_))
      (repeat apply Exists.intro)
      exact⟨rfl,rfl⟩
    case rest =>
     subst hcut
     rw[HV.out]
     have a0:=(c0.set (.int .u32 (v:Int))).other (B':=w.heap.size+1) (by omega) (.int .i64 0)
     have a1:=(c1.other (B':=w.heap.size) (by omega) (.int .u32 (v:Int))).set (.int .i64 0)
     have hK1:=(KeepsOthers.setCell W ⟨w.heap.size,0,none⟩ (.int .u32 (v:Int))).same D _ hK rfl
     have hK2:=(KeepsOthers.setCell _ ⟨w.heap.size+1,0,none⟩ (.int .i64 0)).same D _ hK1 rfl
     have hBe:=((hB1.setCell (p:=⟨w.heap.size,0,none⟩) (Nat.le_refl _) (.int .u32 (v:Int))).setCell (p:=⟨w.heap.size+1,0,none⟩) (Nat.le_succ _) (.int .i64 0)).drew
     obtain⟨WE,hWE⟩:∃ WE,((W.setCell ⟨w.heap.size,0,none⟩ (.int .u32 (v:Int))).setCell ⟨w.heap.size+1,0,none⟩ (.int .i64 0)).drew=WE:=⟨_,rfl⟩
     have a0:Boxed WE w.heap.size 24 (.int .u32 (v:Int)):=by rw[<-hWE];exact a0
     have a1:Boxed WE (w.heap.size+1) 29 (.int .i64 0):=by rw[<-hWE];exact a1
     have hK2:WE.heap[D]? = some (Obj.deferred (some [])):=by rw[<-hWE];exact hK2
     rw[hWE]at hBe
     rw[hWE]
     clear hc0 hf0 hc2 hc3 hc4' hq1 hq2 hWE
     gi_wp2
     refine⟨by simp,.inl ⟨_,_,rfl,run_takeDeferred hK2, ?_⟩⟩
     have hb5:=cell_kept a0.cell (grownBy_putObj' _ D (.deferred none)) (fun r e=>by cases e;exact⟨_,hK2,rfl⟩)
     have hb6:=cell_kept a1.cell (grownBy_putObj' _ D (.deferred none)) (fun r e=>by cases e;exact⟨_,hK2,rfl⟩)
     exact⟨.tuple #[.int .u32 (v:Int),.int .i64 0],by simp[results,Tryz.f89,go_sem,hb5,hb6],parsed_some HX.out (hBe.trans (belowK_b (w:=w) (Nat.le_refl _) _ D _ _ (by omega) hK2 rfl rfl))⟩
   ·have HX:Hid (ans (dl s)=none):=Lib.hid (HA.out.trans (by
     show (if m<256 ^ (5-3) then some (f*256 ^ (5-3)+m) else none)=_
     rw[if_neg hm]))
    gi_wp2
    have a0:=(c0.set (.int .u32 0)).other (B':=w.heap.size+1) (by omega) (.int .i64 30)
    have a1:=(c1.other (B':=w.heap.size) (by omega) (.int .u32 0)).set (.int .i64 30)
    have hK1:=(KeepsOthers.setCell W ⟨w.heap.size,0,none⟩ (.int .u32 0)).same D _ hK rfl
    have hK2:=(KeepsOthers.setCell _ ⟨w.heap.size+1,0,none⟩ (.int .i64 30)).same D _ hK1 rfl
    have hBe:=(hB1.setCell (p:=⟨w.heap.size,0,none⟩) (Nat.le_refl _) (.int .u32 0)).setCell (p:=⟨w.heap.size+1,0,none⟩) (Nat.le_succ _) (.int .i64 30)
    refine⟨by simp,.inl ⟨_,_,rfl,run_takeDeferred hK2, ?_⟩⟩
    have hb5:=cell_kept a0.cell (grownBy_putObj' _ D (.deferred none)) (fun r e=>by cases e;exact⟨_,hK2,rfl⟩)
    have hb6:=cell_kept a1.cell (grownBy_putObj' _ D (.deferred none)) (fun r e=>by cases e;exact⟨_,hK2,rfl⟩)
    exact⟨.tuple #[.int .u32 0,.int .i64 30],by simp[results,Tryz.f89,go_sem,hb5,hb6],parsed_none HX.out (hBe.trans (belowK_b (w:=w) (Nat.le_refl _) _ D _ _ (by omega) hK2 rfl rfl))⟩
  ·change Boxed W (w.heap.size+4) 3 (.int .i64 4) at c4
   have hc4':=c4.cell
   have hfl:f<2 ^ 24:=HL.out.2.1 (by decide)
   by_cases hm:m<256
   ·obtain⟨v,hv0⟩:∃ v,f*256 ^ (5-4)+m=v:=⟨_,rfl⟩
    have HX:Hid (ans (dl s)=some v):=Lib.hid (HA.out.trans (by
     show (if m<256 ^ (5-4) then some (f*256 ^ (5-4)+m) else none)=_
     rw[if_pos hm,hv0]))
    have HV:Hid (bits .or .u64 ((f:Int)*256) (m:Int)%4294967296=(v:Int)):=Lib.hid (by
     rw[<-hv0]
     exact or_val f m 8 256 rfl hm (by omega))
    clear hv0
    have hq1:=fun v=>(c1.other (B':=w.heap.size) (by omega) v).cell
    have hq2:=fun v=>(c1.other (B':=w.heap.size) (by omega) v).frozen
    clear hc1 hf1
    gi_wp2
    gi_cut [] from 49 (fun wc=>wc=((W.setCell ⟨w.heap.size,0,none⟩ (.int .u32 (bits .or .u64 ((f:Int)*256) (m:Int)%4294967296))).setCell ⟨w.heap.size+1,0,none⟩ (.int .i64 0)).drew)
    case first =>
     rename_i J K' hJ hK'
     gi_region
     all_goals
      refine hK' _ _ (Met.intro (hJ _ _ ?_))
      (repeat apply Exists.intro)
      exact⟨rfl,rfl⟩
    case rest =>
     subst hcut
     rw[HV.out]
     have a0:=(c0.set (.int .u32 (v:Int))).other (B':=w.heap.size+1) (by omega) (.int .i64 0)
     have a1:=(c1.other (B':=w.heap.size) (by omega) (.int .u32 (v:Int))).set (.int .i64 0)
     have hK1:=(KeepsOthers.setCell W ⟨w.heap.size,0,none⟩ (.int .u32 (v:Int))).same D _ hK rfl
     have hK2:=(KeepsOthers.setCell _ ⟨w.heap.size+1,0,none⟩ (.int .i64 0)).same D _ hK1 rfl
     have hBe:=((hB1.setCell (p:=⟨w.heap.size,0,none⟩) (Nat.le_refl _) (.int .u32 (v:Int))).setCell (p:=⟨w.heap.size+1,0,none⟩) (Nat.le_succ _) (.int .i64 0)).drew
     obtain⟨WE,hWE⟩:∃ WE,((W.setCell ⟨w.heap.size,0,none⟩ (.int .u32 (v:Int))).setCell ⟨w.heap.size+1,0,none⟩ (.int .i64 0)).drew=WE:=⟨_,rfl⟩
     have a0:Boxed WE w.heap.size 24 (.int .u32 (v:Int)):=by rw[<-hWE];exact a0
     have a1:Boxed WE (w.heap.size+1) 29 (.int .i64 0):=by rw[<-hWE];exact a1
     have hK2:WE.heap[D]? = some (Obj.deferred (some [])):=by rw[<-hWE];exact hK2
     rw[hWE]at hBe
     rw[hWE]
     clear hc0 hf0 hc2 hc3 hc4' hq1 hq2 hWE
     gi_wp2
     refine⟨by simp,.inl ⟨_,_,rfl,run_takeDeferred hK2, ?_⟩⟩
     have hb5:=cell_kept a0.cell (grownBy_putObj' _ D (.deferred none)) (fun r e=>by cases e;exact⟨_,hK2,rfl⟩)
     have hb6:=cell_kept a1.cell (grownBy_putObj' _ D (.deferred none)) (fun r e=>by cases e;exact⟨_,hK2,rfl⟩)
     exact⟨.tuple #[.int .u32 (v:Int),.int .i64 0],by simp[results,Tryz.f89,go_sem,hb5,hb6],parsed_some HX.out (hBe.trans (belowK_b (w:=w) (Nat.le_refl _) _ D _ _ (by omega) hK2 rfl rfl))⟩
   ·have HX:Hid (ans (dl s)=none):=Lib.hid (HA.out.trans (by
     show (if m<256 ^ (5-4) then some (f*256 ^ (5-4)+m) else none)=_
     rw[if_neg hm]))
    gi_wp2
    have a0:=(c0.set (.int .u32 0)).other (B':=w.heap.size+1) (by omega) (.int .i64 30)
    have a1:=(c1.other (B':=w.heap.size) (by omega) (.int .u32 0)).set (.int .i64 30)
    have hK1:=(KeepsOthers.setCell W ⟨w.heap.size,0,none⟩ (.int .u32 0)).same D _ hK rfl
    have hK2:=(KeepsOthers.setCell _ ⟨w.heap.size+1,0,none⟩ (.int .i64 30)).same D _ hK1 rfl
    have hBe:=(hB1.setCell (p:=⟨w.heap.size,0,none⟩) (Nat.le_refl _) (.int .u32 0)).setCell (p:=⟨w.heap.size+1,0,none⟩) (Nat.le_succ _) (.int .i64 30)
    refine⟨by simp,.inl ⟨_,_,rfl,run_takeDeferred hK2, ?_⟩⟩
    have hb5:=cell_kept a0.cell (grownBy_putObj' _ D (.deferred none)) (fun r e=>by cases e;exact⟨_,hK2,rfl⟩)
    have hb6:=cell_kept a1.cell (grownBy_putObj' _ D (.deferred none)) (fun r e=>by cases e;exact⟨_,hK2,rfl⟩)
    exact⟨.tuple #[.int .u32 0,.int .i64 30],by simp[results,Tryz.f89,go_sem,hb5,hb6],parsed_none HX.out (hBe.trans (belowK_b (w:=w) (Nat.le_refl _) _ D _ _ (by omega) hK2 rfl rfl))⟩
 case stop =>
  rintro D c pre W hD ⟨hpre,hpn⟩ ⟨⟨⟨⟨rfl,hx⟩,hv0⟩,hv1⟩,hB1⟩ hK
  have hc0:=hv0.cell
  have hc1:=hv1.cell
  have HX:Hid (ans (dl s)=none):=Lib.hid (by
   obtain⟨t,ht⟩:=hpre
   unfold ans prs
   rw[<-ht,pgo_app,hx]
   rfl)
  clear hpre hx
  gi_wp2
  refine⟨by simp,.inl ⟨_,_,rfl,run_takeDeferred hK, ?_⟩⟩
  have hb5:=cell_kept hv0.cell (grownBy_putObj' _ D (.deferred none)) (fun r e=>by cases e;exact⟨_,hK,rfl⟩)
  have hb6:=cell_kept hv1.cell (grownBy_putObj' _ D (.deferred none)) (fun r e=>by cases e;exact⟨_,hK,rfl⟩)
  exact⟨.tuple #[.int .u32 0,.int .i64 30],by simp[results,Tryz.f89,go_sem,hb5,hb6],parsed_none HX.out (hB1.trans (belowK_b (w:=w) (Nat.le_refl _) W D _ _ (by omega) hK rfl rfl))⟩
theorem Parse_any(s:ByteArray)(hs:s.size<=1000000)(w:World):Calls Tryz.prog 89 #[.string s] w (Parsed (ans (dl s)) w):=callsIn_wide.1 (Parse_in 3 (by omega) s hs w)
end Go.Proofs.YtkibdkfdffkkfaaGreatDoor.Fou
