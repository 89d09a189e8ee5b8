import Derived.Test.YtkibdkfdffkkfaaGreatDoorPk06
import Derived.Deep.RegionLaw
set_option maxRecDepth 100000
set_option maxHeartbeats 8000000
namespace Go.Proofs.YtkibdkfdffkkfaaGreatDoor.Hst
open Go.RowKit Utf Ut
def dgU (n:Int):Int:=if n<10 then 48+n else 55+n
def cd3 (b:Int):List Int:=[37,dgU (b/16),dgU (b%16)]
def cds (l:List Int):List Int:=l.flatMap cd3
def ctl (r:Int):Bool:=decide (r<32∨126<r)
def pOne (r:Int):List Int:=if ctl r=true then cds (encOne r) else [r]
def penc (l:List Int):List Int:=l.flatMap pOne
theorem known1(w:World):Calls Tryz.prog 117 #[.int .u8 1] w (fun e w'=>e = .returned (.bool true)/\w=w'):=by
 go_enter Tryz.func117,Tryz.ntmps117
 go_wp2_with fail
 go_ret
 exact⟨rfl,rfl⟩
theorem further1(r:Int)(w:World):Calls Tryz.prog 166 #[.int .u8 1,.int .i32 r] w (fun e w'=>e = .returned (.bool false)/\w=w'):=by
 go_enter Tryz.func166,Tryz.ntmps166
 go_wp2_with fail
 go_ret
 exact⟨rfl,rfl⟩
theorem In1(r:Int)(w:World):Calls Tryz.prog 118 #[.int .u8 1,.int .i32 r] w (fun e w'=>e = .returned (.bool (ctl r))/\w=w'):=by
 have HK:=Lib.hid (fun W=>known1 W)
 have HF:=Lib.hid (fun W=>further1 r W)
 by_cases h1:r<32
 ·have hd1:decide (r<32)=true:=decide_eq_true h1
  have HE:Hid (ctl r=true):=Lib.hid (decide_eq_true (.inl h1))
  rw[HE.out]
  clear HE
  go_enter Tryz.func118,Tryz.ntmps118
  go_wp2_with(first|(go_at_call 117;refine (HK.out _).mono ?_;rintro e w1 ⟨rfl,rfl⟩)|fail)
  go_ret
  exact⟨rfl,rfl⟩
 ·have hd1:decide (r<32)=false:=decide_eq_false h1
  by_cases h2:126<r
  ·have hd2:decide (126<r)=true:=decide_eq_true h2
   have HE:Hid (ctl r=true):=Lib.hid (decide_eq_true (.inr h2))
   rw[HE.out]
   clear HE
   go_enter Tryz.func118,Tryz.ntmps118
   go_wp2_with(first|(go_at_call 117;refine (HK.out _).mono ?_;rintro e w1 ⟨rfl,rfl⟩)|fail)
   go_ret
   exact⟨rfl,rfl⟩
  ·have hd2:decide (126<r)=false:=decide_eq_false h2
   have HE:Hid (ctl r=false):=Lib.hid (decide_eq_false (by omega))
   rw[HE.out]
   clear HE
   go_enter Tryz.func118,Tryz.ntmps118
   go_wp2_with(first|(go_at_call 117;refine (HK.out _).mono ?_;rintro e w1 ⟨rfl,rfl⟩)|(go_at_call 166;refine (HF.out _).mono ?_;rintro e w1 ⟨rfl,rfl⟩)|fail)
   go_ret
   exact⟨rfl,rfl⟩
def AP (v:Value) (A:Option Addr):Prop:=∀ b o f,A=some ⟨b,o,f⟩->v.ownBlock≠some b
theorem row_grownB{w w':World}{v:Value}{A:Option Addr}{xs:List Value}(hr:Row w w.heap.size A xs)(hg:w.grownBy w' v.ownBlock)(hap:AP v A):Row w' w'.heap.size A xs:=by
 rcases hr with h|⟨c,o,rfl,hc,hcell⟩
 ·exact .inl h
 ·refine .inr ⟨c,o,rfl,Nat.lt_of_lt_of_le hc hg.size,fun i hi => ?_⟩
  have h1:=hcell i hi
  rw[List.getElem?_eq_getElem hi]at h1 ⊢
  exact hg.cell h1 (fun e=>hap c o none rfl e.symm)
section
variable {ops:Array Oper} {o:Oper} {a:Act} {K:Act->World->Prop} {Q:Exit->Act->World->Prop} {E:Prop}
theorem step_appB(B:Nat)(W:World)(hgd:o.guard=none)(s x:Operand)(ho:o.op = .call { callee:=.builtin .append,args:=#[s,x],argTypes:=#[40,40] })
  (v:Value) (n:Nat) (xs:List Int) (hs:a.eval s=v) (hown:W.ownsRow B 5 1 v n (cl .u8 xs)) (hB:B<=W.heap.size)
  (b0 o0:Nat) (m c:Nat) (news:List Int) (hx:a.eval x = .slice (some ⟨b0,o0,none⟩) m c) (hl:news.length=m) (hr:Row W W.heap.size (some ⟨b0,o0,none⟩) (cl .u8 news)) (q:Nat) (hq:n+m=q) (hnm:q<=11000000)
  (A2:Option Addr) (ys:List Int) (hr2:Row W W.heap.size A2 (cl .u8 ys)) (hap:AP v A2) (hlt:∀ b o f,A2=some ⟨b,o,f⟩->b<W.heap.size)
  (h:∀ A' c' w',w'.ownsRow B 5 1 (.slice A' q c') q (cl .u8 (xs++news))->Below B W w'->Row w' w'.heap.size A2 (cl .u8 ys)->AP (.slice A' q c') A2->K (a.put o.dst (.slice A' q c')) w') :
  if Region.wanted o (yielded ops a.tmps)=true then Oper.wp Tryz.prog o a W K Q else E:=by
 subst hq
 obtain⟨i0,hi,hz0,hz1,hz2⟩:=info_split info_u8
 rw[if_pos (show Region.wanted o (yielded ops a.tmps)=true by simp[Region.wanted,hgd])]
 have hnews:∀ j u,(cl .u8 news)[j]? = some u->W.cell? ((⟨b0,o0,none⟩:Addr).add j)=some u:=by
  intro j u hu
  rcases hr with h|⟨b,o,h,_,hc⟩
  ·rw[h]at hu;simp at hu
  ·injection h with h
   rw[h,Go.WideShapes.add_plain,hc j (List.getElem?_eq_some_iff.1 hu).1]
   exact hu
 obtain⟨v',w',hrun,hO,hg,_,hob⟩:=run_append_own_at (P:=Tryz.prog) W B 40 o.type 5 i0 (.int .u8 0) 1 1 Tryz.underlying40 hi hz0 hz1 hz2 rfl (Nat.zero_lt_succ 0) v n (cl .u8 xs) hown ⟨b0,o0,none⟩ m c (cl .u8 news) (by simp[hl]) hnews (one_u8 _) (by unfold maxLen;omega) (by omega) hB
 unfold Oper.wp execOp
 simp only[ho,resolve,invoke,builtin,Sem.run_bind,Sem.run_pure,Result.andThen_ok,List.map_toArray,List.map_cons,List.map_nil,hs,hx,hrun]
 obtain⟨A',c',rfl,_,_⟩:=own_form hO
 refine h A' c' w' (by rw[cl_app];exact hO) ((Below.refl B W).grown hg hB (fun j e=>(hown.lt j e).1)) (row_grownB hr2 hg hap) (fun b o f hA => ?_)
 rcases hob with e|e
 ·rw[e];exact hap b o f hA
 ·rw[e]
  intro e2
  have:=hlt b o f hA
  have e3:=Option.some.inj e2
  omega
end
theorem litU:∀ d:Fin 16,(((⟨#[48,49,50,51,52,53,54,55,56,57,65,66,67,68,69,70]⟩:ByteArray)[d.1]'(Nat.lt_of_lt_of_le d.2 (by decide))).toNat:Int)=dgU (d.1:Int):=by decide
theorem litU'(d:Nat)(h:d<16)(h2:d<(⟨#[48,49,50,51,52,53,54,55,56,57,65,66,67,68,69,70]⟩:ByteArray).size):(((⟨#[48,49,50,51,52,53,54,55,56,57,65,66,67,68,69,70]⟩:ByteArray)[d]'h2).toNat:Int)=dgU (d:Int):=litU ⟨d,h⟩
theorem cds_snoc{l:List Int}{k:Nat}{b:Int}(h:l[k]? = some b):cds (l.take (k+1))=cds (l.take k)++cd3 b:=by
 rw[List.take_add_one,h]
 simp[cds]
theorem cds_len(l:List Int):(cds l).length=3*l.length:=by
 induction l with
 | nil=>rfl
 | cons a t ih=>simp[cds,cd3]at ih ⊢;omega
theorem row_lit3(wr:World)(a b c:Value):Row (wr.alloc (.cells #[a,b,c] 5)).drew (wr.alloc (.cells #[a,b,c] 5)).drew.heap.size (some ⟨wr.heap.size,0,none⟩) [a,b,c]:=by
 have h:Row (wr.alloc (.cells #[a,b,c] 5)) (wr.alloc (.cells #[a,b,c] 5)).heap.size (some ⟨wr.heap.size,0,none⟩) [a,b,c]:=by
  rw[World.size_alloc]
  exact row_new _ _ 5 _ rfl
 exact h
theorem size_lit3{wr:World}{B:Nat}(o:Obj)(h:B<=wr.heap.size):B<=(wr.alloc o).drew.heap.size:=by
 have:B<=(wr.alloc o).heap.size:=by rw[World.size_alloc];omega
 exact this
theorem own_drew{W:World}{b:Nat}{e:TypeId}{s n:Nat}{v:Value}{xs:List Value}(h:W.ownsRow b e s v n xs):W.drew.ownsRow b e s v n xs:=h
theorem addCodes_any(B:Nat)(A:Option Addr)(n c:Nat)(xs:List Int)(A2:Option Addr)(m c2:Nat)(ys:List Int)(w:World)(hB:B<=w.heap.size)(hn:n<=1000000)(hO:w.ownsRow B 5 1 (.slice A n c) n (cl .u8 xs))(hm:ys.length=m)(hm2:m<=1000)(hy:Byt ys)(hr:Row w w.heap.size A2 (cl .u8 ys))(hap:AP (.slice A n c) A2)(hlt0:∀ b o f,A2=some ⟨b,o,f⟩->b<w.heap.size) :
  Calls Tryz.prog 119 #[.slice A n c,.slice A2 m c2] w (fun e w' => ∃ A' c',e = .returned (.slice A' (n+3*m) c')/\w'.ownsRow B 5 1 (.slice A' (n+3*m) c') (n+3*m) (cl .u8 (xs++cds ys))/\Below B w w'):=by
 have HLT:=Lib.hid hlt0
 have HR0:=Lib.hid hr
 have HAP0:=Lib.hid hap
 have HY:=Lib.hid hy
 have HM:=Lib.hid hm
 have HO0:=Lib.hid hO
 clear hlt0 hap hy hm hr hO
 go_enter Tryz.func119,Tryz.ntmps119
 go_wp2_with fail
 go_loopg [0,9] m (fun g s0 s9 wr => ∃ (k q c':Nat) (A':Option Addr),s9 = .int .i64 (k:Int)/\s0 = .slice A' q c'/\m-k=g/\k<=m/\q=n+3*k/\Hid (wr.ownsRow B 5 1 (.slice A' q c') q (cl .u8 (xs++cds (ys.take k))))/\Hid (Below B w wr)/\Hid (Row wr wr.heap.size A2 (cl .u8 ys)/\AP (.slice A' q c') A2))
 case atStart=>exact⟨0,n,c,A,rfl,rfl,rfl,Nat.zero_le _,rfl,by simpa[cds] using HO0,Lib.hid (Below.refl _ _),Lib.hid ⟨HR0.out,HAP0.out⟩⟩
 case round =>
  clear HO0 HR0 HAP0
  obtain⟨k,q,c',A',rfl,rfl,rfl,hk,hq,HO,HB,HR⟩:=hrel
  by_cases hlt:k<m
  ·have hltz:(k:Int)<(m:Int):=by omega
   have hk':k<ys.length:=by rw[HM.out];exact hlt
   obtain⟨b,hb⟩:∃ b,ys[k]? = some b:=⟨_,List.getElem?_eq_getElem hk'⟩
   obtain⟨g0,o0,rfl,hb0,hcc⟩:=HR.out.1.at_ (by simp;omega)
   have c0:wr.cell? ⟨g0,o0+k,none⟩=some (.int .u8 b):=by rw[hcc k (by simp;omega)];simp[cl,hb]
   have hbb:=HY.out b (List.mem_of_getElem? hb)
   obtain⟨bn,rfl⟩:=Int.eq_ofNat_of_zero_le hbb.1
   have hbn:bn<256:=by omega
   have HS:=Lib.hid (cds_snoc hb)
   obtain⟨hi,hhi⟩:∃ h,bn/16=h:=⟨_,rfl⟩
   obtain⟨lo,hlo⟩:∃ h,bn%16=h:=⟨_,rfl⟩
   have h1:(bn:Int)/16=(hi:Int):=by omega
   have h2:(bn:Int)%16=(lo:Int):=by omega
   have hh16:hi<16:=by omega
   have hl16:lo<16:=by omega
   have HS2:Hid (cds (ys.take (k+1))=cds (ys.take k)++[37,dgU (hi:Int),dgU (lo:Int)]):=Lib.hid (by rw[HS.out,cd3,h1,h2])
   have hand:bits .and .u8 (bn:Int) 15=(lo:Int):=by
    rw[u8_and (bn:Int) 15 (by omega) (by omega) (by omega) (by omega)]
    have e:=Nat.and_two_pow_sub_one_eq_mod bn 4
    have e2:((bn:Int).toNat &&& (15:Int).toNat)=bn%16:=e
    rw[e2,hlo]
   have hx1:=litU' hi hh16 (Nat.lt_of_lt_of_le hh16 (by decide))
   have hx2:=litU' lo hl16 (Nat.lt_of_lt_of_le hl16 (by decide))
   obtain⟨e1,he1⟩:∃ e,(⟨#[48,49,50,51,52,53,54,55,56,57,65,66,67,68,69,70]⟩:ByteArray)[hi]'(Nat.lt_of_lt_of_le hh16 (by decide))=e:=⟨_,rfl⟩
   obtain⟨e2,he2⟩:∃ e,(⟨#[48,49,50,51,52,53,54,55,56,57,65,66,67,68,69,70]⟩:ByteArray)[lo]'(Nat.lt_of_lt_of_le hl16 (by decide))=e:=⟨_,rfl⟩
   rw[he1]at hx1
   rw[he2]at hx2
   have HS3:Hid (xs++cds (ys.take (k+1))=(xs++cds (ys.take k))++[37,(e1.toNat:Int),(e2.toNat:Int)]):=Lib.hid (by rw[HS2.out,hx1,hx2,List.append_assoc])
   have HO1:=HO.out
   have HQ:=Lib.hid hq
   have hle:B<=wr.heap.size:=Nat.le_trans hB HB.out.size
   have hq1:q+3<=11000000:=by omega
   have i1:(0:Int)<=(hi:Int)/\(hi:Int)<16:=by omega
   have i2:(0:Int)<=(lo:Int)/\(lo:Int)<16:=by omega
   have b2:(0:Int)<=(bn:Int)/\(bn:Int)<256:=by omega
   have hqk:n+3*k+3=n+3*(k+1):=by omega
   have HQK:Hid (q+3=n+3*(k+1)):=Lib.hid (by omega)
   clear hb hcc hhi hlo HS HS2 hk' hx1 hx2 hq hqk
   have HRL:Hid (∀ O,Row (wr.alloc O).drew (wr.alloc O).drew.heap.size (some ⟨g0,o0,none⟩) (cl .u8 ys)):=Lib.hid (fun O=>by
    have h:=row_grownB (v:=.slice none 0 0) (w':=wr.alloc O) HR.out.1 (World.grownBy_alloc wr O none) (fun _ _ _ _ e=>by cases e)
    exact h)
   have HLL:Hid (∀ O:Obj,∀ b o f,(some (⟨g0,o0,none⟩:Addr))=some ⟨b,o,f⟩->b<(wr.alloc O).drew.heap.size):=Lib.hid (fun O b o f e=>by
    have h1:=HLT.out b o f e
    have h2:=HB.out.size
    have:b<(wr.alloc O).heap.size:=by rw[World.size_alloc];omega
    exact this)
   go_upto_region 4 with fail
   go_region_law (first
    | (refine step_appB B _ rfl (.tmp 13) (.tmp 20) rfl (.slice A' q c') q (xs++cds (ys.take k)) rfl (own_drew (HO1.alloc _)) (size_lit3 _ hle) wr.heap.size 0 3 3 [37,(e1.toNat:Int),(e2.toNat:Int)] rfl rfl (row_lit3 _ _ _ _) (q+3) rfl hq1 (some ⟨g0,o0,none⟩) ys (HRL.out _) HR.out.2 (HLL.out _) ?_;intro A3 c3 w3 hO3 hB3 hR3 hP3)
    | fail)
   all_goals
    go_wp2_with fail
    go_roundg (m-(k+1))
    case measure=>omega
    case rel=>exact⟨k+1,q+3,c3,A3,by go_num,rfl,rfl,by omega,HQK.out,Lib.hid (by rw[HS3.out];exact hO3),Lib.hid (HB.out.trans (((Below.refl B wr).alloc hle _).drew.trans hB3)),Lib.hid ⟨hR3,hP3⟩⟩
  ·obtain rfl:k=m:=by omega
   have hltz:¬ (k:Int)<(k:Int):=by omega
   have HE:Hid (ys.take k=ys):=Lib.hid (List.take_of_length_le (by rw[HM.out];exact Nat.le_refl _))
   subst hq
   go_wp2_with fail
   go_ret
   refine⟨A',c',rfl, ?_,HB.out⟩
   have:=HO.out
   rw[HE.out,cl_app]at this
   exact this
end Go.Proofs.YtkibdkfdffkkfaaGreatDoor.Hst
namespace Go.Proofs.YtkibdkfdffkkfaaGreatDoor.Utf
theorem b1_byt{r:Int}(h0:0<=r)(h1:r<=1114111):Byt (b1 r):=by
 intro x hx
 unfold b1 at hx
 split at hx
 ·simp at hx;omega
 split at hx
 ·simp at hx;omega
 split at hx
 ·simp at hx;omega
 ·simp at hx;omega
theorem encOne_byt(r:Int):Byt (encOne r):=b1_byt (fix_range r).1 (fix_range r).2
theorem enc_byt(l:List Int):Byt (enc l):=by
 intro x hx
 obtain⟨r,_,hr⟩:=List.mem_flatMap.1 hx
 exact encOne_byt r x hr
theorem b1_1{r:Int}(h:r<=127):b1 r=[r]:=by simp[b1,h]
theorem b1_2{r:Int}(h0:127<r)(h:r<=2047):b1 r=[192+r/64,128+r%64]:=by
 unfold b1
 rw[if_neg (by omega),if_pos h]
theorem b1_3{r:Int}(h0:2047<r)(h:r<=65535):b1 r=[224+r/4096,128+r/64%64,128+r%64]:=by
 unfold b1
 rw[if_neg (by omega),if_neg (by omega),if_pos h]
theorem b1_4{r:Int}(h0:65535<r):b1 r=[240+r/262144,128+r/4096%64,128+r/64%64,128+r%64]:=by
 unfold b1
 rw[if_neg (by omega),if_neg (by omega),if_neg (by omega)]
theorem loB_cases(c:Int):(c=224/\loB c=160)∨(c=240/\loB c=144)∨(c≠224/\c≠240/\loB c=128):=by
 unfold loB
 by_cases h:c=224
 ·simp[h]
 ·by_cases h':c=240
  ·simp[h']
  ·simp[h,h']
theorem hiB_cases(c:Int):(c=237/\hiB c=159)∨(c=244/\hiB c=143)∨(c≠237/\c≠244/\hiB c=191):=by
 unfold hiB
 by_cases h:c=237
 ·simp[h]
 ·by_cases h':c=244
  ·simp[h']
  ·simp[h,h']
theorem first_enc{r:Int}(t:List Int)(hs:sca r=true):firstC (b1 r++t)=(r,(b1 r).length,true):=by
 have h:=(sca_iff r).1 hs
 by_cases a1:r<=127
 ·rw[b1_1 a1]
  simp[firstC,lead1 a1,go]
 by_cases a2:r<=2047
 ·rw[b1_2 (by omega) a2]
  simp only[firstC,List.cons_append,List.nil_append,lead2 (show 194<=192+r/64 by omega) (show 192+r/64<=223 by omega),show (2:Int).toNat=2 from rfl,show ¬ (2:Int)=0 by decide,if_false]
  simp[go,show ¬ (128+r%64<128∨191<128+r%64) by omega]
  omega
 by_cases a3:r<=65535
 ·rw[b1_3 (by omega) a3]
  simp only[firstC,List.cons_append,List.nil_append,lead3 (show 224<=224+r/4096 by omega) (show 224+r/4096<=239 by omega),show (3:Int).toNat=3 from rfl,show ¬ (3:Int)=0 by decide,if_false]
  have hlo:=loB_cases (224+r/4096)
  have hhi:=hiB_cases (224+r/4096)
  simp[go,show ¬ (128+r/64%64<loB (224+r/4096)∨hiB (224+r/4096)<128+r/64%64) by omega,show ¬ (128+r%64<128∨191<128+r%64) by omega]
  omega
 ·rw[b1_4 (by omega)]
  simp only[firstC,List.cons_append,List.nil_append,lead4 (show 240<=240+r/262144 by omega) (show 240+r/262144<=244 by omega),show (4:Int).toNat=4 from rfl,show ¬ (4:Int)=0 by decide,if_false]
  have hlo:=loB_cases (240+r/262144)
  have hhi:=hiB_cases (240+r/262144)
  simp[go,show ¬ (128+r/4096%64<loB (240+r/262144)∨hiB (240+r/262144)<128+r/4096%64) by omega,show ¬ (128+r/64%64<128∨191<128+r/64%64) by omega,show ¬ (128+r%64<128∨191<128+r%64) by omega]
  omega
end Go.Proofs.YtkibdkfdffkkfaaGreatDoor.Utf
namespace Go.Proofs.YtkibdkfdffkkfaaGreatDoor.Hst
open Go.RowKit Utf Ut
theorem pOne_len(r:Int):(pOne r).length<=12:=by
 unfold pOne
 split
 ·rw[cds_len];have:=(encOne_len r).2;omega
 ·simp
theorem penc_take{l:List Int}{k:Nat}{r:Int}(h:l[k]? = some r):penc (l.take (k+1))=penc (l.take k)++pOne r:=by
 rw[List.take_add_one,h]
 simp[penc]
def EncR (l:List Int) (w:World) (e:Ending) (w':World):Prop:=e = .returned (.tuple #[.string (strOfNums (penc l)),.int .i64 0])/\Below w.heap.size w w'
theorem PEncode_any(l:List Int)(A:Option Addr)(n c:Nat)(w:World)(hn:l.length=n)(hl:n<=1000)(hr:Row w w.heap.size A (cl .i32 l)):Calls Tryz.prog 68 #[.int .u8 1,.slice A n c] w (EncR l w):=by
 have HK:=Lib.hid (fun W=>known1 W)
 have HN:=Lib.hid hn
 have HR:=Lib.hid hr
 obtain⟨i0,hi,hz0,hz1,hz2⟩:=info_split info_u8
 have HZ:=Lib.hid hz2
 clear hn hr
 go_enter Tryz.func68,Tryz.ntmps68
 go_wp2_with(first|(go_at_call 117;refine (HK.out _).mono ?_;rintro e w1 ⟨rfl,rfl⟩)|(at_make;refine wpList_make_own _ rfl _ _ 40 rfl w.heap.size 5 i0 _ 1 Tryz.underlying40 hi hz0 hz1 .i64 .i64 _ n rfl rfl rfl (by rw[HZ.out];omega) (by unfold maxLen;omega) (Nat.le_refl _) ?_;intro w1 hown1 hgrow1)|fail)
 have hB1:Below w.heap.size w w1:=(Below.refl _ _).grown hgrow1 (Nat.le_refl _) (fun j e=>by cases e)
 go_loopg [6,17] n (fun m s6 s17 wr => ∃ (k q c':Nat) (A':Option Addr),s17 = .int .i64 (k:Int)/\s6 = .slice A' q c'/\n-k=m/\k<=n/\q<=12*k/\Hid ((penc (l.take k)).length=q)/\Hid (wr.ownsRow w.heap.size 5 1 (.slice A' q c') q (cl .u8 (penc (l.take k))))/\Hid (Below w.heap.size w wr))
 case atStart=>exact⟨0,0,n,_,rfl,rfl,rfl,Nat.zero_le _,Nat.le_refl _,Lib.hid rfl,Lib.hid hown1,Lib.hid hB1⟩
 case round =>
  clear hown1 hB1 hgrow1
  obtain⟨k,q,c',A',rfl,rfl,rfl,hk,hq,HQ,HO,HB⟩:=hrel
  by_cases hlt:k<n
  ·have hltz:(k:Int)<(n:Int):=by omega
   have hk':k<l.length:=by rw[HN.out];exact hlt
   obtain⟨r,hr⟩:∃ r,l[k]? = some r:=⟨_,List.getElem?_eq_getElem hk'⟩
   obtain⟨g0,o0,rfl,hb0,hcc⟩:=(HR.out.below HB.out).at_ (by simp;omega)
   have c0:wr.cell? ⟨g0,o0+k,none⟩=some (.int .i32 r):=by rw[hcc k (by simp;omega)];simp[cl,hr]
   have HT:=Lib.hid (penc_take hr)
   have HIN:=Lib.hid (fun W=>In1 r W)
   have HPL:=Lib.hid (pOne_len r)
   have hle:w.heap.size<=wr.heap.size:=HB.out.size
   clear hr hcc hk'
   cases hct:ctl r with
   | true =>
    rw[hct]at HIN
    have HP1:Hid (pOne r=cds (encOne r)):=Lib.hid (by unfold pOne;rw[if_pos hct])
    have HEN:=Lib.hid (fun W A c (h:Row W W.heap.size A (cl .i32 [r]))=>Encode_any [r] A 1 c W rfl (by decide) h)
    have HEL:=Lib.hid (encOne_len r)
    have HEB:=Lib.hid (encOne_byt r)
    obtain⟨m,hm⟩:∃ m,(encOne r).length=m:=⟨_,rfl⟩
    have hm4:m<=4:=by rw[<-hm];exact HEL.out.2
    have HM:=Lib.hid hm
    unfold MadeBytes at HEN
    rw[enc_one]at HEN
    rw[hm]at HEN
    clear hct hm
    have HO1:=Lib.hid (HO.out.alloc (.cells #[.int .i32 r] 21))
    go_upto_region 7 with fail
    go_upto_region 8 with(first|(go_at_call 118;refine (HIN.out _).mono ?_;rintro e w2 ⟨rfl,rfl⟩)|fail)
    have HQ2:Hid ((penc (l.take (k+1))).length=q+3*m):=Lib.hid (by rw[HT.out,HP1.out,List.length_append,cds_len,HM.out,HQ.out])
    go_wp2_with(first
     | (go_at_call 86;refine (HEN.out _ _ _ (by rw[World.size_alloc];exact row_new _ _ 21 [.int .i32 r] rfl)).mono ?_;rintro e w3 ⟨v3,rfl,ho3,hb3⟩;obtain⟨A3,c3,rfl,hc3,hr3⟩:=own_form ho3;have hs3:=hb3.size;rw[World.size_alloc]at hs3)
     | (go_at_call 119;refine (addCodes_any w.heap.size A' q c' (penc (l.take k)) A3 m c3 (encOne r) w3 (by omega) (by omega) (own_below HO1.out hb3) HM.out (by omega) HEB.out hr3 (fun b o f hA e=>by
       have h1:=(HO.out.lt b e).2
       have h2:=(ho3.lt b (by rw[hA];rfl)).1
       rw[World.size_alloc]at h2
       omega) (fun b o f hA=>(ho3.lt b (by rw[hA];rfl)).2)).mono ?_;rintro e w4 ⟨A4,c4,rfl,hO4,hB4⟩)
     | fail)
    go_roundg (n-(k+1))
    case measure=>omega
    case rel=>exact⟨k+1,q+3*m,c4,A4,by go_num,rfl,rfl,by omega,by omega,HQ2,Lib.hid (by rw[HT.out,HP1.out];exact hO4),Lib.hid (HB.out.trans ((((Below.refl _ _).alloc hle _).trans (hb3.mono (by rw[World.size_alloc];omega))).trans hB4))⟩
   | false =>
    rw[hct]at HIN
    have HP1:Hid (pOne r=[r]):=Lib.hid (by unfold pOne;rw[if_neg (by rw[hct];decide)])
    have hrr:32<=r/\r<=126:=by
     have:=of_decide_eq_false hct
     omega
    have hw8:IntKind.u8.wrap r=r:=by simp[IntKind.wrap,IntKind.signed,IntKind.bits];omega
    have HQ2:Hid ((penc (l.take (k+1))).length=q+1):=Lib.hid (by rw[HT.out,HP1.out,List.length_append,HQ.out];rfl)
    have HO1:=HO.out
    clear hct
    go_upto_region 7 with fail
    go_wp2_with(first
     | (go_at_call 118;refine (HIN.out _).mono ?_;rintro e w2 ⟨rfl,rfl⟩)
     | (at_builtin;refine wpList_appB w.heap.size _ rfl _ _ rfl (.slice A' q c') q (q+1) (penc (l.take k)) r rfl HO1 hle rfl rfl (by omega) ?_;intro A4 c4 w4 hO4 hB4)
     | fail)
    go_roundg (n-(k+1))
    case measure=>omega
    case rel=>exact⟨k+1,q+1,c4,A4,by go_num,rfl,rfl,by omega,by omega,HQ2,Lib.hid (by rw[HT.out,HP1.out];exact hO4),Lib.hid (HB.out.trans hB4)⟩
  ·obtain rfl:k=n:=by omega
   have hltz:¬ (k:Int)<(k:Int):=by omega
   have HE:Hid (l.take k=l):=Lib.hid (List.take_of_length_le (by rw[HN.out];exact Nat.le_refl _))
   have hcv:=conv_row (c:=c') HQ.out (Row.of_own HO.out)
   rw[HE.out]at hcv
   clear hlt
   go_wp2_with fail
   go_ret2
   exact⟨rfl,HB.out⟩
end Go.Proofs.YtkibdkfdffkkfaaGreatDoor.Hst
namespace Puny
def thr (lead k:Nat):Nat:=min (max (36*k-lead) 1) 26
theorem thr_lo(lead k:Nat):1<=thr lead k:=by unfold thr;omega
theorem thr_hi(lead k:Nat):thr lead k<=26:=by unfold thr;omega
theorem digs_dec{t d:Nat}(h:¬ d<t)(h1:1<=t):(d-t)/(36-t)<d:=by
 have:=Nat.div_le_self (d-t) (36-t)
 omega
def digs (lead k d:Nat):List Nat :=
 if h:d<thr lead k then [d]
 else (thr lead k+(d-thr lead k)%(36-thr lead k))::digs lead (k+1) ((d-thr lead k)/(36-thr lead k))
termination_by d
decreasing_by exact digs_dec h (thr_lo lead k)
theorem digs_last{lead k d:Nat}(h:d<thr lead k):digs lead k d=[d]:=by rw[digs,dif_pos h]
theorem digs_more{lead k d:Nat}(h:¬ d<thr lead k):digs lead k d=(thr lead k+(d-thr lead k)%(36-thr lead k))::digs lead (k+1) ((d-thr lead k)/(36-thr lead k)):=by
 rw[digs,dif_neg h]
theorem digs_ne(lead k d:Nat):digs lead k d≠[]:=by
 rw[digs];split<;>simp
theorem digs_lt(lead k d:Nat):∀ x∈digs lead k d,x<36:=by
 fun_induction digs lead k d with
 | case1 k d h=>intro x hx;have:=thr_hi lead k;simp at hx;omega
 | case2 k d h ih =>
  intro x hx
  rcases List.mem_cons.1 hx with rfl|hx
  ·have:=thr_hi lead k
   have:=Nat.mod_lt (d-thr lead k) (show 0<36-thr lead k by omega)
   omega
  ·exact ih x hx
def sign (d:Nat):UInt8:=if d<26 then UInt8.ofNat (97+d) else UInt8.ofNat (22+d)
def worth (c:UInt8):Option Nat:=if 97<=c.toNat/\c.toNat<=122 then some (c.toNat-97) else if 48<=c.toNat/\c.toNat<=57 then some (c.toNat-22) else none
theorem sign_nat{d:Nat}(h:d<36):(sign d).toNat=if d<26 then 97+d else 22+d:=by
 unfold sign;split<;>simp<;>omega
theorem sign_worth{c:UInt8}{d:Nat}(h:worth c=some d):sign d=c/\d<36:=by
 unfold worth at h
 split at h
 ·injection h with h
  subst h
  refine⟨UInt8.toNat_inj.1 ?_,by omega⟩
  rw[sign_nat (by omega)];split<;>omega
 ·split at h
  ·injection h with h
   subst h
   refine⟨UInt8.toNat_inj.1 ?_,by omega⟩
   rw[sign_nat (by omega)];split<;>omega
  ·cases h
def num (lead:Nat):Nat->List UInt8->Option (Nat × Nat)
 | _,[]=>none
 | k, c :: cs =>
  match worth c with
  | none=>none
  | some x => if x < thr lead k then some (x, 1) else
   match num lead (k+1) cs with
   | none=>none
   | some (v,n)=>some (x+(36-thr lead k)*v,n+1)
theorem num_back(lead:Nat):∀ (s:List UInt8) (k v n:Nat),num lead k s=some (v,n)->s.take n=(digs lead k v).map sign/\n=(digs lead k v).length/\0<n/\n<=s.length
 | [],_,_,_,h=>by simp[num]at h
 | c :: cs, k, v, n, h => by
  have h1:=thr_hi lead k
  unfold num at h
  cases hc:worth c with
  | none=>rw[hc]at h;cases h
  | some x =>
   rw[hc]at h
   obtain⟨hs,hx⟩:=sign_worth hc
   simp only at h
   split at h
   ·rename_i hlt
    simp only[Option.some.injEq,Prod.mk.injEq]at h
    obtain⟨rfl,rfl⟩:=h
    rw[digs_last hlt]
    simp[hs]
   ·rename_i hlt
    cases hr:num lead (k+1) cs with
    | none=>rw[hr]at h;cases h
    | some r =>
     obtain⟨v',n'⟩:=r
     rw[hr]at h
     simp only[Option.some.injEq,Prod.mk.injEq]at h
     obtain⟨rfl,rfl⟩:=h
     obtain⟨i1,i2,i3,i4⟩:=num_back lead cs (k+1) v' n' hr
     have e1:(x+(36-thr lead k)*v'-thr lead k)%(36-thr lead k)=x-thr lead k:=by
      rw[show x+(36-thr lead k)*v'-thr lead k=(x-thr lead k)+(36-thr lead k)*v' by omega,Nat.add_mul_mod_self_left,Nat.mod_eq_of_lt (by omega)]
     have e2:(x+(36-thr lead k)*v'-thr lead k)/(36-thr lead k)=v':=by
      rw[show x+(36-thr lead k)*v'-thr lead k=(x-thr lead k)+(36-thr lead k)*v' by omega,Nat.add_mul_div_left _ _ (by omega),Nat.div_eq_of_lt (by omega),Nat.zero_add]
     have hge:¬ x+(36-thr lead k)*v'<thr lead k:=by omega
     rw[digs_more hge,e1,e2]
     refine⟨?_,by simp[i2],by omega,by simp;omega⟩
     rw[List.take_succ_cons,i1,List.map_cons,show thr lead k+(x-thr lead k)=x by omega,hs]
def adapt (d k:Nat):Nat:=if h:455<d then adapt (d/35) (k+36) else k+36*d/(d+38)
termination_by d
decreasing_by omega
def next (d part h:Nat):Nat:=adapt (d/part+d/part/h) 0
def encD:List Nat->Nat->Nat->Nat->List Nat
 | [],_,_,_=>[]
 | d::ds,h,lead,part=>digs lead 1 d++encD ds (h+1) (next d part (h+1)) 2
theorem encD_lt:∀ (ds:List Nat) (h lead part:Nat),∀ x∈encD ds h lead part,x<36
 | [],_,_,_,x,hx=>by simp[encD]at hx
 | d :: ds, h, lead, part, x, hx => by
  rw[encD]at hx
  rcases List.mem_append.1 hx with hx|hx
  ·exact digs_lt _ _ _ x hx
  ·exact encD_lt ds _ _ _ x hx
abbrev many:Nat:=1114112
def rdD (s:List UInt8) (h lead part:Nat):Option (List Nat) :=
 if _hs:s=[] then some [] else
 match hn:num lead 1 s with
 | none=>none
 | some (d,n)=>if d<many*(h+1) then (rdD (s.drop n) (h+1) (next d part (h+1)) 2).map (d :: ·) else none
termination_by s.length
decreasing_by
 have:=num_back lead s 1 d n hn
 rw[List.length_drop]
 omega
theorem rdD_nil(h lead part:Nat):rdD [] h lead part=some []:=by rw[rdD,dif_pos rfl]
theorem rdD_none{s:List UInt8}{h lead part:Nat}(hs:s≠[])(hn:num lead 1 s=none):rdD s h lead part=none:=by
 rw[rdD,dif_neg hs]
 split
 ·rfl
 ·rename_i d n hh;rw[hn]at hh;cases hh
theorem rdD_some{s:List UInt8}{h lead part d n:Nat}(hs:s≠[])(hn:num lead 1 s=some (d,n)) :
  rdD s h lead part=if d<many*(h+1) then (rdD (s.drop n) (h+1) (next d part (h+1)) 2).map (d :: ·) else none:=by
 rw[rdD,dif_neg hs]
 split
 ·rename_i hh;rw[hn]at hh;cases hh
 ·rename_i d' n' hh
  rw[hn]at hh
  injection hh with hh
  injection hh with h1 h2
  subst h1 h2
  rfl
def Small:List Nat->Nat->Prop
 | [],_=>True
 | d::ds,h=>d<many*(h+1)/\Small ds (h+1)
theorem encD_rdD(s:List UInt8)(h lead part:Nat):∀ ds,rdD s h lead part=some ds->(encD ds h lead part).map sign=s/\Small ds h:=by
 fun_induction rdD s h lead part with
 | case1 h lead part=>intro ds hd;injection hd with hd;subst hd;simp[encD,Small]
 | case2 s h lead part hs hn=>intro ds hd;cases hd
 | case3 s h lead part hs d n hn hlt ih =>
  intro ds hd
  cases hr:rdD (s.drop n) (h+1) (next d part (h+1)) 2 with
  | none=>rw[hr]at hd;cases hd
  | some ds' =>
   rw[hr]at hd
   injection hd with hd
   subst hd
   obtain⟨i1,i2⟩:=ih ds' hr
   obtain⟨j1,_,_,_⟩:=num_back lead s 1 d n hn
   refine⟨?_,hlt,i2⟩
   rw[encD,List.map_append,i1,<-j1,List.take_append_drop]
 | case4 s h lead part hs d n hn hlt=>intro ds hd;cases hd
end Puny
