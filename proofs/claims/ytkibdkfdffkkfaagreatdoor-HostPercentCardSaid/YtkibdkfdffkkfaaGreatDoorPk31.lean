import Derived.Test.YtkibdkfdffkkfaaGreatDoorPk29
import Derived.Test.YtkibdkfdffkkfaaGreatDoorPk30
import Derived.Test.YtkibdkfdffkkfaaGreatDoorPk21
set_option maxRecDepth 100000
set_option maxHeartbeats 8000000
namespace Go.Proofs.YtkibdkfdffkkfaaGreatDoor.Pn
open Go.RowKit Go.Shelf Puny
def splitLast:List UInt8->Option (List UInt8 × List UInt8)
 | []=>none
 | x :: l => match splitLast l with
  | some (a,b)=>some (x::a,b)
  | none=>if x=45 then some ([],l) else none
theorem splitLast_none:∀ {l:List UInt8},45 ∉ l->splitLast l=none
 | [],_=>rfl
 | x :: l, h => by
  rw[splitLast,splitLast_none (fun e=>h (List.mem_cons_of_mem _ e))]
  exact if_neg fun e=>h (by simp[e])
theorem splitLast_mk:∀ {a b:List UInt8},45 ∉ b->splitLast (a++45::b)=some (a,b)
 | [],b,h=>by rw[List.nil_append,splitLast,splitLast_none h];rfl
 | x::a,b,h=>by rw[List.cons_append,splitLast,splitLast_mk h]
def dt (l:List UInt8):Option (List Nat) :=
 match splitLast l with
 | none=>decD [] l
 | some (a,b)=>if a.all (fun x=>decide (x.toNat<128))=true/\0<a.length then decD (nat8 a) b else none
theorem dt_of{l:List UInt8}{r:Option (List Nat)}(h:decT l r):r=dt l:=by
 obtain⟨basic,digits,ok,hp,rfl⟩:=h
 unfold dt
 rcases hp with ⟨h0,rfl,rfl,rfl⟩|⟨a,b,rfl,hb,⟨⟨x,hx,hx2⟩,rfl,rfl,rfl⟩|⟨ha,rfl,rfl,rfl⟩⟩
 ·rw[splitLast_none h0];rfl
 ·rw[splitLast_mk hb]
  have:¬ (a.all (fun x=>decide (x.toNat<128))=true/\0<a.length):=fun e=>by
   have:=List.all_eq_true.1 e.1 x hx
   simp at this;omega
  simp only[this,if_false];rfl
 ·rw[splitLast_mk hb]
  have h1:basic.all (fun x=>decide (x.toNat<128))=true:=List.all_eq_true.2 fun x hx=>decide_eq_true (ha x hx)
  by_cases h2:0<basic.length
  ·simp[h1,h2]
  ·simp[h2]
def hd (l:List Nat):List UInt8:=(Puny.basics l).map UInt8.ofNat++(if Puny.basics l=[] then [] else [45])
def tl (l:List Nat):List UInt8:=(encD (deltas l) (Puny.basics l).length 72 700).map sign
theorem encT_parts(l:List Nat):encT l=hd l++tl l:=rfl
theorem hd_nil{l:List Nat}(h:Puny.basics l=[]):hd l=[]:=by simp[hd,h]
theorem hd_cons{l:List Nat}(h:Puny.basics l≠[]):hd l=(Puny.basics l).map UInt8.ofNat++[45]:=by simp[hd,h]
theorem basics_lt(l:List Nat):∀ x∈Puny.basics l,x<128:=fun x hx=>by
 unfold Puny.basics at hx
 simpa using (List.mem_filter.1 hx).2
theorem of_nat8(l:List UInt8):(nat8 l).map UInt8.ofNat=l:=by
 unfold nat8
 rw[List.map_map]
 conv=>rhs;rw[<-List.map_id l]
 exact List.map_congr_left fun x _=>by simp
theorem splitLast_none_inv:∀ {l:List UInt8},splitLast l=none->45 ∉ l
 | [],_=>by simp
 | x :: l, h => by
  rw[splitLast]at h
  cases hs:splitLast l with
  | some p=>rw[hs]at h;cases h
  | none =>
   rw[hs]at h
   have hx:x≠45:=fun e=>by simp[e]at h
   have:=splitLast_none_inv hs
   simp only[List.mem_cons,not_or]
   exact⟨fun e=>hx e.symm,this⟩
theorem splitLast_some_inv:∀ {l a b:List UInt8},splitLast l=some (a,b)->l=a++45::b/\45 ∉ b
 | [],_,_,h=>by cases h
 | x :: l, a, b, h => by
  rw[splitLast]at h
  cases hs:splitLast l with
  | some p =>
   obtain⟨p1,p2⟩:=p
   rw[hs]at h
   simp only[Option.some.injEq,Prod.mk.injEq]at h
   obtain⟨h1,h2⟩:=splitLast_some_inv hs
   obtain⟨rfl,rfl⟩:=h
   exact⟨by rw[h1];rfl,h2⟩
  | none =>
   rw[hs]at h
   by_cases hx:x=45
   ·simp only[hx,if_true,Option.some.injEq,Prod.mk.injEq]at h
    obtain⟨rfl,rfl⟩:=h
    exact⟨by rw[hx];rfl,splitLast_none_inv hs⟩
   ·simp[hx]at h
theorem enc_dt{s:List UInt8}{r:List Nat}(h:dt s=some r):encT r=s/\(∀ x∈r,sca x=true)/\r.length<=s.length:=by
 unfold dt at h
 cases hs:splitLast s with
 | none =>
  rw[hs]at h
  obtain⟨h1,h2,h3,h4⟩:=enc_decD (b:=[]) (by simp) h
  refine⟨?_,h3,by simpa using h4⟩
  rw[encT_parts,hd_nil h1,List.nil_append]
  unfold tl
  rw[h1]
  exact h2
 | some p =>
  obtain⟨a,b⟩:=p
  obtain⟨hsp,hnb⟩:=splitLast_some_inv hs
  rw[hs]at h
  by_cases hc:a.all (fun x=>decide (x.toNat<128))=true/\0<a.length
  ·simp only[hc,and_self,if_true]at h
   have hlt:∀ x∈nat8 a,x<128:=fun x hx=>by
    unfold nat8 at hx
    obtain⟨y,hy,rfl⟩:=List.mem_map.1 hx
    simpa using List.all_eq_true.1 hc.1 y hy
   obtain⟨h1,h2,h3,h4⟩:=enc_decD hlt h
   have hl:(nat8 a).length=a.length:=by unfold nat8;rw[List.length_map]
   have hne:Puny.basics r≠[]:=by rw[h1];intro e;rw[e]at hl;simp at hl;omega
   refine⟨?_,h3,by rw[hsp,List.length_append,List.length_cons];omega⟩
   rw[encT_parts,hd_cons hne,h1,of_nat8,hsp,List.append_assoc]
   unfold tl
   rw[h1,h2]
   rfl
  ·have e:(a.all (fun x=>decide (x.toNat<128))=true/\0<a.length)=False:=eq_false hc
   simp only[e,if_false]at h
   cases h
theorem deltas_len{l:List Nat}(hs:∀ x∈l,sca x=true):l.length=(Puny.basics l).length+(deltas l).length :=
 (deltas_ins (basics_lt l) (ins_deltas l hs).1).2.2.2
theorem encD_long:∀ (ds:List Nat) (h lead part:Nat),Small ds h->h+ds.length<=2000->(encD ds h lead part).length<=11*ds.length
 | [],_,_,_,_,_=>Nat.zero_le _
 | d :: ds, h, lead, part, hs, hh => by
  rw[encD,List.length_append,List.length_cons]
  rw[List.length_cons]at hh
  have h1:=encD_long ds (h+1) (next d part (h+1)) 2 hs.2 (by omega)
  have h2:many*(h+1)<=many*2001:=Nat.mul_le_mul_left _ (by omega)
  have h3:=digs_len10 lead 1 d (by have:=hs.1;unfold many at *;omega)
  omega
theorem encT_len{l:List Nat}(hs:∀ x∈l,sca x=true)(hl:l.length<=900):(encT l).length<=10000:=by
 have h0:=deltas_len hs
 have h1:=encD_long _ _ 72 700 (ins_deltas l hs).2 (by omega)
 rw[encT_parts,List.length_append]
 have h2:(tl l).length<=11*(deltas l).length:=by unfold tl;rw[List.length_map];exact h1
 have h3:(hd l).length<=(Puny.basics l).length+1:=by
  unfold hd;rw[List.length_append,List.length_map];split<;>simp
 omega
end Go.Proofs.YtkibdkfdffkkfaaGreatDoor.Pn
namespace Go.Proofs.YtkibdkfdffkkfaaGreatDoor.Hst
open Go.RowKit Utf Remap Norm Pn
def ofN (l:List Nat):List Int:=l.map fun n:Nat=>(n:Int)
theorem cn_ofN(l:List Nat):cn l=cl .i32 (ofN l):=by simp[cn,cl,ofN]
def sfv (l:List Int):Int ⊕ List Int:=match dt (dl (runesBytes (l.drop 4))) with
 | none => .inl 40
 | some o=>if (ofN o).any byd=false then .inl 40 else if rgt (ofN o)=false then .inl 70 else .inr (ofN o)
def RT (w:World) (A:Option Addr) (l:List Int):Prop:=l=[]∨∃ b o cur fz,A=some ⟨b,o,none⟩/\w.heap[b]? = some (.cells cur 21 fz)/\∀ k,k<l.length->cur[o+k]? = (cl .i32 l)[k]?
theorem RT.row{w:World}{A:Option Addr}{l:List Int}(h:RT w A l):Row w w.heap.size A (cl .i32 l):=by
 rcases h with rfl|⟨b,o,cur,fz,rfl,hb,hc⟩
 ·exact .inl rfl
 ·refine .inr ⟨b,o,rfl,(Array.getElem?_eq_some_iff.1 hb).1,fun k hk => ?_⟩
  rw[<-hc k (by simpa[cl] using hk)]
  simp[World.cell?,hb]
theorem RT.keep{w w':World}{A:Option Addr}{l:List Int}(h:RT w A l)(hk:∀ (b:Nat) (cur:Array Value) (fz:Nat × Nat),w.heap[b]? = some (Obj.cells cur 21 fz)->w'.heap[b]? = some (Obj.cells cur 21 fz)):RT w' A l:=by
 rcases h with h|⟨b,o,cur,fz,hA,hb,hc⟩
 ·exact .inl h
 ·exact .inr ⟨b,o,cur,fz,hA,hk _ _ _ hb,hc⟩
theorem RT.below{w w':World}{A:Option Addr}{l:List Int}(h:RT w A l)(hB:Below w.heap.size w w'):RT w' A l:=h.keep fun b _ _ hb=>(hB.block b (Array.getElem?_eq_some_iff.1 hb).1).trans hb
theorem RT.of_own{w:World}{base n c:Nat}{A:Option Addr}{l:List Int}(h:w.ownsRow base 21 1 (.slice A n c) n (cl .i32 l)):RT w A l:=by
 have hl:=h.1
 rw[List.length_map,Nat.mul_one]at hl
 rcases h.2 with ⟨_,h0⟩|⟨g,cap,cur,hv,_,hg,hn,_,hs,ht⟩
 ·exact .inl (List.eq_nil_of_length_eq_zero (by omega))
 ·refine .inr ⟨g,0,cur,(0,0),by injection hv,hg,fun k hk => ?_⟩
  rw[<-ht,Nat.zero_add,Nat.mul_one,List.getElem?_take,if_pos (by omega)]
  simp
theorem RT.set2{w:World}{A:Option Addr}{l:List Int}(h:RT w A l){B:Nat}{cs:Array Value}{T:TypeId}{fz:Nat × Nat}(hb:w.heap[B]? = some (.cells cs T fz))(hT:T≠21)(u v:Value):RT ((w.setCell ⟨B,0,none⟩ u).setCell ⟨B,1,none⟩ v) A l:=h.keep fun b cur fz' e=>by
 have hne:b≠B:=fun x=>by
  subst x
  rw[hb]at e
  injection e with e
  injection e with e1 e2 e3
  exact hT e2
 rw[Below.heap_setCell _ _ _ _ hne,Below.heap_setCell _ _ _ _ hne]
 exact e
def DecT (s:ByteArray) (w:World) (e:Ending) (w':World):Prop :=
 (∃ out A c,dt s.data.toList=some out/\e = .returned (.tuple #[.slice A out.length c,.int .i64 0])/\RT w' A (ofN out)/\Below w.heap.size w w') ∨
 (dt s.data.toList=none/\e = .returned (.tuple #[.slice none 0 0,.int .i64 40])/\Below w.heap.size w w')
theorem DecT_any(s:ByteArray)(w:World)(hs:s.size<=10000):Calls Tryz.prog 275 #[.string s] w (DecT s w) :=
 (Decode_any s w hs).mono fun _ _ h=>by
  rcases h with ⟨out,v,hd,he,ho,hB⟩|⟨hd,he,hB⟩
  ·obtain⟨A,c,rfl,_,hr⟩:=own_form ho
   rw[cn_ofN]at ho
   exact .inl ⟨out,A,c,(dt_of hd).symm,he,.of_own ho,hB⟩
  ·exact .inr ⟨(dt_of hd).symm,he,hB⟩
def SfR (v:Int ⊕ List Int) (w:World) (e:Ending) (w':World):Prop:=match v with
 | .inl x=>e = .returned (.tuple #[.slice none 0 0,.int .i64 x])/\Below w.heap.size w w'
 | .inr o => ∃ A c,e = .returned (.tuple #[.slice A o.length c,.int .i64 0])/\RT w' A o/\Below w.heap.size w w'
theorem sfR_inl{v:Int ⊕ List Int}{x:Int}{w w':World}(h:v = .inl x)(hB:Below w.heap.size w w'):SfR v w (.returned (.tuple #[.slice none 0 0,.int .i64 x])) w':=by subst h;exact⟨rfl,hB⟩
theorem sfR_inr{v:Int ⊕ List Int}{o:List Int}{n:Nat}{A:Option Addr}{c:Nat}{w w':World}(h:v = .inr o)(hn:o.length=n)(hr:RT w' A o)(hB:Below w.heap.size w w'):SfR v w (.returned (.tuple #[.slice A n c,.int .i64 0])) w':=by subst h hn;exact⟨A,c,rfl,hr,hB⟩
theorem row_dropI{w:World}{B:Nat}{A:Option Addr}{l:List Int}(h:Row w B A (cl .i32 l)){n cap k:Nat}(hn:l.length=n)(hk:k<=n)(hc:¬ cap=k):Row w B (Option.map (fun x=>x.add k) A) (cl .i32 (l.drop k)):=by
 have h:=(h.sub (l:=k) (n:=n-k) (cap:=cap) (m:=k) (by simp[hn];omega) (fun _=>hc)).2 rfl
 rw[<-List.map_drop,List.take_of_length_le (by simp[hn])]at h
 exact h
theorem standsFor_any(l:List Int)(A:Option Addr)(n c:Nat)(w:World)(hn:l.length=n)(h4:4<n)(hl:n<=1000)(hc:n<=c)(hr:Row w w.heap.size A (cl .i32 l)):Calls Tryz.prog 243 #[.slice A n c] w (SfR (sfv l) w):=by
 have hbs:(runesBytes (l.drop 4)).size<=4000:=by
  have:=runesBytes_size_le (l.drop 4)
  rw[List.length_drop,hn]at this
  omega
 have hrow:=row_dropI hr (cap:=c) hn (k:=4) (by omega) (by omega)
 obtain⟨b,o,rfl,hb,hcc⟩:=hr.at_ (by simp[hn];omega)
 have hcv:(convert 22 9 (.slice (some ⟨b,o+4,none⟩) (n-4) (c-4))).run Tryz.prog w = .ok (.string (runesBytes (l.drop 4))) w:=conv_runes (n:=n-4) (c:=c-4) (by rw[List.length_drop,hn]) hrow
 have HD:=Lib.hid (fun W=>DecT_any (runesBytes (l.drop 4)) W (by omega))
 have HV:Hid (sfv l=match dt (dl (runesBytes (l.drop 4))) with
  | none => .inl 40
  | some o=>if (ofN o).any byd=false then .inl 40 else if rgt (ofN o)=false then .inl 70 else .inr (ofN o)):=Lib.hid rfl
 have HE:=Lib.hid (fun r (h:dt (dl (runesBytes (l.drop 4)))=some r)=>enc_dt h)
 obtain⟨s,hs⟩:∃ s,runesBytes (l.drop 4)=s:=⟨_,rfl⟩
 rw[hs]at hbs hcv HD HV HE
 have h4z:(4:Int)<=(n:Int):=by omega
 have hn4:(n:Int)-4=((n-4:Nat):Int):=by omega
 have hlen:s.data.toList.length=s.size:=by simp
 have HLEN:=Lib.hid hlen
 clear hs hr hrow hlen hn hcc
 go_enter Tryz.func243,Tryz.ntmps243
 go_wp2_with fail
 refine (HD.out _).mono ?_
 rintro e w1 (⟨out,A1,c1,hd,rfl,hr1,hB1⟩|⟨hd,rfl,hB1⟩)
 ·obtain⟨_,hsca,hlen1⟩:=HE.out out hd
  have hl1:out.length<=4000:=by
   have h1:=HLEN.out
   have h2:out.length<=s.data.toList.length:=hlen1
   omega
  have HV1:Hid (sfv l=if (ofN out).any byd=false then .inl 40 else if rgt (ofN out)=false then .inl 70 else .inr (ofN out)):=Lib.hid (by rw[HV.out];have hd':dt (dl s)=some out:=hd;rw[hd'])
  obtain⟨m,hm⟩:∃ m,out.length=m:=⟨_,rfl⟩
  rw[hm]at hl1 ⊢
  have hm2:(ofN out).length=m:=by rw[ofN,List.length_map,hm]
  have HT1:=Lib.hid hr1
  replace hr1:=hr1.row
  have HBY:=Lib.hid (Contains_bey (ofN out) A1 m c1 w1 hm2 (by omega) hr1)
  have HR1:=Lib.hid hr1
  have HM2:=Lib.hid hm2
  have hC:∀ x∈ofN out,-2147483648<=x/\x<=2147483647:=by
   intro x hx
   obtain⟨k,hk,rfl⟩:=List.mem_map.1 hx
   have:=hsca k hk
   simp[Puny.sca]at this
   omega
  have HC:=Lib.hid hC
  clear hd hm hm2 hsca hlen1 hr1 HV HE
  obtain⟨q,hq⟩:∃ q,(ofN out).any byd=q:=⟨_,rfl⟩
  rw[hq]at HBY HV1
  clear hq
  cases q with
  | false =>
   have HV2:Hid (sfv l = .inl 40):=Lib.hid (by rw[HV1.out,if_pos rfl])
   go_wp2_with(first|(go_at_call 90;refine HBY.out.mono ?_;rintro e w2 ⟨rfl,hB2⟩)|fail)
   go_ret2
   exact sfR_inl HV2.out (upB hB1 hB2)
  | true =>
   have HV2:Hid (sfv l=if rgt (ofN out)=false then .inl 70 else .inr (ofN out)):=Lib.hid (by rw[HV1.out,if_neg (by decide)])
   have HRT:=Lib.hid (fun W (h:Below w1.heap.size w1 W)=>right_any (ofN out) A1 m c1 W HM2.out hl1 HC.out ((HR1.out.below h).mono h.size))
   obtain⟨p,hp⟩:∃ p,rgt (ofN out)=p:=⟨_,rfl⟩
   rw[hp]at HRT HV2
   clear hp hC
   cases p with
   | false =>
    have HV3:Hid (sfv l = .inl 70):=Lib.hid (by rw[HV2.out,if_pos rfl])
    go_wp2_with(first|(go_at_call 90;refine HBY.out.mono ?_;rintro e w2 ⟨rfl,hB2⟩)|(go_at_call 244;refine (HRT.out _ hB2).mono ?_;rintro e w3 ⟨rfl,hB3⟩)|fail)
    go_ret2
    exact sfR_inl HV3.out (upB (upB hB1 hB2) hB3)
   | true =>
    have HV3:Hid (sfv l = .inr (ofN out)):=Lib.hid (by rw[HV2.out,if_neg (by decide)])
    go_wp2_with(first|(go_at_call 90;refine HBY.out.mono ?_;rintro e w2 ⟨rfl,hB2⟩)|(go_at_call 244;refine (HRT.out _ hB2).mono ?_;rintro e w3 ⟨rfl,hB3⟩)|fail)
    go_ret2
    exact sfR_inr HV3.out HM2.out (HT1.out.below (upB hB2 hB3)) (upB (upB hB1 hB2) hB3)
 ·have HV1:Hid (sfv l = .inl 40):=Lib.hid (by rw[HV.out];have hd':dt (dl s)=none:=hd;rw[hd'])
  clear hd
  go_wp2_with fail
  go_ret2
  exact sfR_inl HV1.out hB1
end Go.Proofs.YtkibdkfdffkkfaaGreatDoor.Hst
