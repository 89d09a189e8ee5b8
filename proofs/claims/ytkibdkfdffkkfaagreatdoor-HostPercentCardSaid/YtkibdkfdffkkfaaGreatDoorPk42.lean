import Derived.Test.YtkibdkfdffkkfaaGreatDoorPk41
set_option maxRecDepth 100000
set_option maxHeartbeats 8000000
namespace Go.Proofs.YtkibdkfdffkkfaaGreatDoor.Rul
open Go.RowKit Go.Shelf Ucd
attribute [local go_sem] Oper.semAt_some
def back (l:List Int):Nat->List (Nat × Int)
 | 0=>[]
 | k+1=>(k,l[k]!)::back l k
def encB (x:Nat × Int):Array Value:=#[.int .i64 (x.1:Int),.int .i32 x.2]
def lb:List (Nat × Int)->Int
 | []=>8
 | x::t=>if bc x.2=8 then lb t else bc x.2
theorem lb_back(l:List Int):∀ n,n<=l.length->lb (back l n)=lastC ((l.take n).map bc)
 | 0,_=>rfl
 | n + 1, h => by
  rw[List.take_succ_eq_append_getElem (by omega),List.map_append,List.map_singleton,lastC_snoc,<-lb_back l n (by omega),back,lb,getElem!_pos l n (by omega)]
theorem back_len(l:List Int):∀ n,(back l n).length=n
 | 0=>rfl
 | n+1=>by rw[back,List.length_cons,back_len l n]
def KpB (n B:Nat) (W W':World):Prop:=Below n W W'/\W'.heap[B]? = W.heap[B]?
theorem KpB.t{n B:Nat}{X Y Z:World}(h:KpB n B X Y)(k:KpB n B Y Z):KpB n B X Z:=⟨h.1.trans k.1,k.2.trans h.2⟩
theorem KpB.b{n B:Nat}{w:World}(hn:n<=w.heap.size)(hB:B<w.heap.size)(W:World)(l:Nat)(o o':Obj)(hl:w.heap.size<=l)(h:W.heap[l]? = some o)(h1:o.isCells=false)(h2:o.isWalk=false):KpB n B W (W.putObj l o') :=
 ⟨belowK_b hn W l o o' hl h h1 h2,World.putObj_heap_other (by omega)⟩
theorem Backward_any(A:Option Addr)(len cap:Nat)(w:World)(n:Nat) :
  CallsIn Fence.wide n Tryz.prog 263 #[.slice A len cap] w fun e w'=>e = .returned (.func (.func 297) #[] #[.pointer (some ⟨w.heap.size,0,none⟩)])/\w'=w.alloc (.cells #[.slice A len cap] 22):=by
 refine callsIn_of_wp Tryz.func263 rfl trivial ?_ rfl
 simp only[Tryz.ntmps263,List.size_toArray,List.length_cons,List.length_nil,Nat.reduceAdd,Nat.reduceSub,Array.replicate_succ,Array.replicate_zero,List.push_toArray,List.append_toArray,List.nil_append,List.cons_append]
 gi_wp2
 go_ret
 exact⟨rfl,rfl⟩
def BRel (l:List Int) (n₁ Bn:Nat) (A:Option Addr) (len cap:Nat) (J:List (Nat × Int)->World->Prop) (i:Value) (wr:World):Prop :=
 ∃ (pre:List (Nat × Int)) (k:Nat),k<=len/\i = .int .i64 ((k:Int)-1)/\back l len=pre++back l k/\J pre wr/\Row wr n₁ A (cl .i32 l)/\wr.heap[Bn]? = some (.cells #[.slice A len cap] 22 (0,0))/\n₁<=wr.heap.size
theorem pre_ltB{l:List Int}{pre:List (Nat × Int)}{k n:Nat}(h:back l n=pre++back l (k+1)):pre.length<n:=by
 have:=congrArg List.length h
 rw[List.length_append,back_len,back_len]at this
 omega
theorem back1_in(n:Nat)(hn:1<=n)(L Bn n₁:Nat)(A:Option Addr)(len cap:Nat)(l:List Int)(hlen:l.length=len)(hm:len<=1000000)(J Jx:List (Nat × Int)->World->Prop)(W:World)(hJ:AbidesFrom W.heap.size J)
  (hY:∀ pre x W,J pre W->pre.length<len->YieldAt Fence.wide (n-1) Tryz.prog L (encB x) W fun e W' =>
   (e = .returned (.bool true)/\J (pre++[x]) W'/\KpB n₁ Bn W W')∨(e = .returned (.bool false)/\Jx (pre++[x]) W'))
  (hBn:W.heap[Bn]? = some (.cells #[.slice A len cap] 22 (0,0))) (hr:Row W n₁ A (cl .i32 l)) (hn₁:n₁<=W.heap.size) (h0:J [] W) :
  CallsIn Fence.wide n Tryz.prog 297 #[.func (.yield L) #[] #[],.pointer (some ⟨Bn,0,none⟩)] W fun e W'=>(∃ v,e = .returned v) /\
   ((∃ ys,ys=back l len/\J ys W')∨(∃ pre,pre <+: back l len/\Jx pre W')):=by
 have HL:=Lib.hid hlen
 clear hlen
 have hcell0:W.cell? ⟨Bn,0,none⟩=some (.slice A len cap):=by simp[World.cell?,hBn]
 refine callsIn_of_wp Tryz.func297 rfl trivial ?_ rfl
 simp only[Tryz.ntmps297,List.size_toArray,List.length_cons,List.length_nil,Nat.reduceAdd,Nat.reduceSub,Array.replicate_succ,Array.replicate_zero,List.push_toArray,List.append_toArray,List.nil_append,List.cons_append]
 gi_wp2
 gi_loopw [3] (fun i wr=>BRel l n₁ Bn A len cap J i wr) (fun i _=>(intOf i+1).toNat)
 case atStart=>exact⟨[],len,Nat.le_refl _,rfl,rfl,h0,hr,hBn,hn₁⟩
 case round =>
  clear hcell0
  obtain⟨pre,k,hk,rfl,hcodes,hJs,hrw,hBw,hsz⟩:=hrel
  have hcell:wr.cell? ⟨Bn,0,none⟩=some (.slice A len cap):=by simp[World.cell?,hBw]
  cases k with
  | succ k =>
   have e1:((k+1:Nat):Int)-1=(k:Int):=by omega
   rw[e1]
   clear e1
   have h0z:(0:Int)<=(k:Int):=by omega
   have hltz:(k:Int)<(len:Int):=by omega
   obtain⟨b,o,rfl,hb',hcc⟩:=hrw.at_ (by have:=HL.out;simp;omega)
   have c0:=row_cell hcc k (by rw[HL.out];omega)
   have HCO:=Lib.hid hcodes
   have HJ:=Lib.hid hJ
   have HY:=Lib.hid hY
   clear hcodes hBn hr hn₁ h0 hJ hY hcc
   obtain⟨fn,tmps,assign,body,hy,hR⟩:=HY.out pre (k,l[k]!) wr hJs (pre_ltB HCO.out)
   simp only[encB]at hy
   have HCS:Hid (back l len=(pre++[(k,l[k]!)])++back l k):=Lib.hid (by rw[HCO.out,back,List.append_assoc];rfl)
   generalize l[k]! = r at c0 hy hR HCS
   gi_wp2
   refine hR.mono ?_
   rintro e W3 (⟨rfl,hJ3,hk3⟩|⟨rfl,hJx3⟩)
   ·gi_wp2
    go_roundw
    case rel=>exact⟨pre++[(k,r)],k,by omega,by go_num,HCS.out,hJ3,hrw.below hk3.1,hk3.2.trans hBw,Nat.le_trans hsz hk3.1.size⟩
    case measure=>first|(simp[intOf];done)|(simp[intOf];omega)
   ·gi_wp2
    refine bodyPost_ret (results_none rfl _ _ _) rfl ?_
    exact⟨⟨_,rfl⟩,.inr ⟨pre++[(k,r)],⟨back l k,HCS.out.symm⟩,hJx3⟩⟩
  | zero =>
   have e1:((0:Nat):Int)-1 = -1:=by omega
   rw[e1]
   clear e1
   have HCO:=Lib.hid hcodes
   clear hcodes
   gi_wp2
   go_end0
   exact⟨⟨_,rfl⟩,.inl ⟨pre,by rw[HCO.out,back,List.append_nil],hJs⟩⟩
theorem back_stops(n:Nat)(hn:1<=n)(Bn n₁:Nat)(A:Option Addr)(len cap:Nat)(l:List Int)(hlen:l.length=len)(hm:len<=1000000)(w:World)
  (hBn:w.heap[Bn]? = some (.cells #[.slice A len cap] 22 (0,0))) (hr:Row w n₁ A (cl .i32 l)) (hn₁:n₁<=w.heap.size) :
  SeqStopsK Fence.wide n Tryz.prog 297 #[.pointer (some ⟨Bn,0,none⟩)] encB (KpB n₁ Bn) (fun ys=>ys=back l len) (fun pre=>pre <+: back l len) len w:=fun L J Jx W hW hJ _ hY h0 =>
 back1_in n hn L Bn n₁ A len cap l hlen hm J Jx W hJ hY ((hW.block Bn (Array.getElem?_eq_some_iff.1 hBn).1).trans hBn) (hr.below (hW.mono hn₁)) (Nat.le_trans hn₁ hW.size) h0
attribute [local go_sem] Oper.semAt_some
theorem lb_app(p t:List (Nat × Int)):lb (p++t)=if lb p=8 then lb t else lb p:=by
 induction p with
 | nil=>rfl
 | cons a p ih =>
  rw[List.cons_append,lb,lb,ih]
  split
  ·rfl
  ·rfl
theorem lb_snoc(p:List (Nat × Int))(x:Nat × Int)(h:lb p=8):lb (p++[x])=bc x.2:=by
 rw[lb_app,if_pos h,lb,lb]
 split
 ·rename_i e;exact e.symm
 ·rfl
theorem mark_hb(r:Int):hb 256 r=decide (bc r=8):=by
 unfold hb
 rw[(hs_all (bc_bd r)).2.2.2.2.2.1]
 simp[S]
theorem keeps_below{W W':World}(h:Below W.heap.size W W'):KeepsOthers W W':=⟨h.size,fun k _ hk _=>(h.block k (Array.getElem?_eq_some_iff.1 hk).1).trans hk⟩
def EndI (w:World) (fv sv:Value) (pre:List (Nat × Int)) (W:World):Prop :=
 (((lb pre=8/\Boxed W w.heap.size 81 fv)/\Boxed W (w.heap.size+1) 4 (.bool false))/\Boxed W (w.heap.size+2) 22 sv)/\Below w.heap.size w W
def EndX (w:World) (s:Int) (c:Code) (pre:List (Nat × Int)) (W:World):Prop :=
 ((c = .ret/\lb pre≠8)/\Boxed W (w.heap.size+1) 4 (.bool (hs s (lb pre))))/\Below w.heap.size w W
theorem ends_in(n:Nat)(hn:3<=n)(s:Int)(hs0:0<=s)(hs1:s<4294967296)(h8:hs s 8=false)(l:List Int)(A:Option Addr)(len cap:Nat)(w:World)(hlen:l.length=len)(hm:len<=1000000)(hr:Row w w.heap.size A (cl .i32 l)) :
  CallsIn Fence.wide n Tryz.prog 332 #[.slice A len cap,.func (.func 293) #[.int .u32 s] #[]] w (IsB (hs s (lastC (l.map bc))) w):=by
 have h1:1<=n:=by omega
 have HL:=Lib.hid hlen
 have HE:Hid (lb (back l len)=lastC (l.map bc)):=Lib.hid (by rw[lb_back l len (by omega),List.take_of_length_le (by omega)])
 have HS8:=Lib.hid h8
 have HM:=Lib.hid (fun r w=>has_any 256 r (by decide) (by decide) w)
 have HF:=Lib.hid (fun r w=>has_any s r hs0 hs1 w)
 clear hlen h8 hs0 hs1
 refine callsIn_of_wp_marks Tryz.func332 rfl trivial ?_ rfl
 simp only[Tryz.ntmps332,List.size_toArray,List.length_cons,List.length_nil,Nat.reduceAdd,Nat.reduceSub,Array.replicate_succ,Array.replicate_zero,List.push_toArray,List.append_toArray,List.nil_append,List.cons_append]
 gi_wp2_with (refine⟨trivial, ?_⟩;gi_at_call 263;refine (Backward_any _ _ _ _ _).mono ?_;rintro e w' ⟨rfl,rfl⟩)
 have bF:=((Boxed.new w 81 (.func (.func 293) #[.int .u32 s] #[])).alloc (.cells #[.bool false] 4)).alloc (.cells #[.slice A len cap] 22)
 have bO:=(Boxed.new (w.alloc (.cells #[(.func (.func 293) #[.int .u32 s] #[])] 81)) 4 (.bool false)).alloc (.cells #[.slice A len cap] 22)
 have bN:=Boxed.new ((w.alloc (.cells #[(.func (.func 293) #[.int .u32 s] #[])] 81)).alloc (.cells #[.bool false] 4)) 22 (.slice A len cap)
 rw[World.size_alloc]at bO
 rw[World.size_alloc,World.size_alloc]at bN
 have hB0:Below w.heap.size w (((w.alloc (.cells #[(.func (.func 293) #[.int .u32 s] #[])] 81)).alloc (.cells #[.bool false] 4)).alloc (.cells #[.slice A len cap] 22)):=(((Below.refl _ w).alloc (Nat.le_refl _) _).alloc (by simp) _).alloc (by simp;omega) _
 have hsz:(((w.alloc (.cells #[(.func (.func 293) #[.int .u32 s] #[])] 81)).alloc (.cells #[.bool false] 4)).alloc (.cells #[.slice A len cap] 22)).heap.size=w.heap.size+3:=by simp
 obtain⟨W0,hW0⟩:∃ W0,((w.alloc (.cells #[(.func (.func 293) #[.int .u32 s] #[])] 81)).alloc (.cells #[.bool false] 4)).alloc (.cells #[.slice A len cap] 22)=W0:=⟨_,rfl⟩
 rw[hW0]at bF bO bN hB0 hsz ⊢
 clear hW0
 refine wpIn_rangeFunc_ownH (F:=Fence.wide) rfl h1 (gf:=297) (lb:=#[.pointer (some ⟨w.heap.size+2,0,none⟩)]) rfl trivial (enters_of Tryz.func297 (by kernel_rfl) rfl)
  (back_stops (n-1) (by omega) (w.heap.size+2) w.heap.size A len cap l HL.out hm W0 bN (hr.below hB0) hB0.size) KpB.t (KpB.b (by omega) (by omega)) (Below.refl _ _) (fun _=>rfl)
  (EndI w (.func (.func 293) #[.int .u32 s] #[]) (.slice A len cap))
  (EndX w s)
  (OwnFrom.and (OwnFrom.and (OwnFrom.and (OwnFrom.and (ownFrom_pure _ _) (Own.from (boxed_own _ _ _) _)) (Own.from (boxed_own _ _ _) _)) (Own.from (boxed_own _ _ _) _)) (ownFrom_below (Nat.le_refl _) (by omega)))
  (fun c=>OwnFrom.and (OwnFrom.and (ownFrom_pure _ _) (Own.from (boxed_own _ _ (fun pre=>Value.bool (hs s (lb pre)))) _)) (ownFrom_below (Nat.le_refl _) (by omega)))
  ⟨⟨⟨⟨rfl,bF⟩,bO⟩,bN⟩,hB0⟩
  (fun x a' _=>a' = { tmps:=#[.slice A len cap,(.func (.func 293) #[.int .u32 s] #[]),undef,.pointer (some ⟨w.heap.size,0,none⟩),.pointer (some ⟨w.heap.size+1,0,none⟩),undef,.int .i32 x.2,.slice A len cap,.func (.func 297) #[] #[.pointer (some ⟨w.heap.size+2,0,none⟩)],.int .i64 (x.1:Int),.int .i32 x.2,undef,undef,undef,undef,undef,undef],defers:=[] })
  (fun _ _ _ _ _ _ hs _ _=>hs)
  ?assign ?body ?done ?stop
 case assign =>
  rintro l' pre x W K hI hK
  simp only[encB]
  gi_wp2
  exact hK _ _ (KeepsFrom.refl _ _) ⟨Below.refl _ _,rfl⟩ hI rfl
 case body =>
  rintro l' pre ⟨k,r⟩ a' W hl ⟨r',hr'⟩ ⟨⟨⟨⟨hall,bF1⟩,bO1⟩,bN1⟩,hB1⟩ rfl hlt
  have HA:=Lib.hid (lb_snoc pre (k,r) hall)
  have HM1:=Lib.hid (HM.out r)
  rw[mark_hb]at HM1
  have HF1:=Lib.hid (HF.out r)
  have HQ:Hid (hb s r=hs s (bc r)):=Lib.hid rfl
  have hsW:=hB1.size
  clear hall
  by_cases h8:bc r=8
  ·rw[decide_eq_true h8]at HM1
   have H8:=Lib.hid h8
   clear h8
   gi_wp2_with fail
   refine⟨trivial,(fun h=>by cases h),(CallsIn.inRound l' (callsIn_wide.2 (HM1.out _))).mono ?_⟩
   rintro e w1 ⟨rfl,hb1⟩
   gi_wp2
   exact⟨(keeps_below hb1).from _,⟨hb1.mono hsW,hb1.block _ bN1.lt⟩,⟨⟨⟨⟨HA.out.trans H8.out,box_go bF1 hb1⟩,box_go bO1 hb1⟩,box_go bN1 hb1⟩,upB hB1 hb1⟩⟩
  ·rw[decide_eq_false h8]at HM1
   have H8:=Lib.hid h8
   clear h8
   gi_wp2_with fail
   refine⟨trivial,(fun h=>by cases h),(CallsIn.inRound l' (callsIn_wide.2 (HM1.out _))).mono ?_⟩
   rintro e w1 ⟨rfl,hb1⟩
   have bF2:=box_go bF1 hb1
   have bO2:=box_go bO1 hb1
   have hB2:=upB hB1 hb1
   have hcF:=bF2.cell
   gi_wp2_with fail
   refine⟨trivial,(fun h=>by cases h),(CallsIn.inRound l' (callsIn_wide.2 (HF1.out _))).mono ?_⟩
   rintro e w2 ⟨rfl,hb2⟩
   have bO3:=box_go bO2 hb2
   have hB3:=upB hB2 hb2
   have hc:=bO3.cell
   have hf:=bO3.frozen
   rw[HQ.out]
   gi_wp2
   refine⟨(((keeps_below hb1).trans (keeps_below hb2)).trans (KeepsOthers.setCell _ _ _)).from _,⟨⟨rfl,by rw[HA.out];exact H8.out⟩, ?_⟩,hB3.setCell (p:=⟨w.heap.size+1,0,none⟩) (Nat.le_succ _) _⟩
   rw[HA.out]
   exact bO3.set _
 case done =>
  rintro D ys W hD rfl ⟨⟨⟨⟨hall,bF1⟩,bO1⟩,bN1⟩,hB1⟩ hK
  have hc:=bO1.cell
  have hf:=bO1.frozen
  have HA:=Lib.hid hall
  clear hall
  gi_wp2
  have hK':=(KeepsOthers.setCell W ⟨w.heap.size+1,0,none⟩ (.bool false)).same D _ hK rfl
  refine⟨by simp,.inl ⟨_,_,rfl,run_takeDeferred hK', ?_⟩⟩
  have hb5:=cell_kept (bO1.set (.bool false)).cell (grownBy_putObj' _ D (.deferred none)) (fun r e=>by cases e;exact⟨_,hK',rfl⟩)
  refine⟨.bool false,by simp[results,Tryz.f332,go_sem,hb5],⟨by rw[<-HE.out,HA.out,HS8.out], ?_⟩⟩
  exact (hB1.setCell (p:=⟨w.heap.size+1,0,none⟩) (Nat.le_succ _) _).trans (belowK_b (w:=w) (Nat.le_refl _) _ D _ _ (by omega) hK' rfl rfl)
 case stop =>
  rintro D c pre W hD hpre ⟨⟨⟨rfl,hx⟩,hv⟩,hB1⟩ hK
  have hc:=hv.cell
  gi_wp2
  refine⟨by simp,.inl ⟨_,_,rfl,run_takeDeferred hK, ?_⟩⟩
  have hb5:=cell_kept hv.cell (grownBy_putObj' _ D (.deferred none)) (fun r e=>by cases e;exact⟨_,hK,rfl⟩)
  obtain⟨t,ht⟩:=hpre
  refine⟨.bool (hs s (lb pre)),by simp[results,Tryz.f332,go_sem,hb5],⟨by rw[<-HE.out,<-ht,lb_app,if_neg hx], ?_⟩⟩
  exact hB1.trans (belowK_b (w:=w) (Nat.le_refl _) W D _ _ (by omega) hK rfl rfl)
theorem ends_any(s:Int)(hs0:0<=s)(hs1:s<4294967296)(h8:hs s 8=false)(l:List Int)(A:Option Addr)(len cap:Nat)(w:World)(hlen:l.length=len)(hm:len<=1000000)(hr:Row w w.heap.size A (cl .i32 l)) :
  Calls Tryz.prog 332 #[.slice A len cap,.func (.func 293) #[.int .u32 s] #[]] w (IsB (hs s (lastC (l.map bc))) w):=callsIn_wide.1 (ends_in 3 (by omega) s hs0 hs1 h8 l A len cap w hlen hm hr)
end Go.Proofs.YtkibdkfdffkkfaaGreatDoor.Rul
