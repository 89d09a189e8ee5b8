import Derived.Test.YtkibdkfdffkkfaaGreatDoorPk44
import Derived.Shelf.Strings.FuncGrows
set_option maxRecDepth 100000
set_option maxHeartbeats 8000000
namespace Go.Proofs.YtkibdkfdffkkfaaGreatDoor.Hst
open Go.RowKit Go.Shelf Utf Remap Norm Pn Puny
def renCF:Ren:=⟨fun|15=>116|17=>66|20=>165|n=>n,fun|0=>0|3=>3|4=>4|9=>9|21=>21|23=>81|n=>n,fun n=>n⟩
theorem cfLaid:LaysGw.n17 Tryz.prog renCF:={
 mixed:=by kernel_rfl
 f15:=by kernel_rfl
 f17:=by kernel_rfl
 f20:=by kernel_rfl
 t0:=Tryz.underlying0
 a0:=Tryz.isAgg0
 z0:=Tryz.sizeOf0
 v0:=Tryz.zeroValue0
 i0:=by kernel_rfl
 t3:=Tryz.underlying3
 a3:=Tryz.isAgg3
 z3:=Tryz.sizeOf3
 v3:=Tryz.zeroValue3
 i3:=by kernel_rfl
 t4:=Tryz.underlying4
 a4:=Tryz.isAgg4
 z4:=Tryz.sizeOf4
 v4:=Tryz.zeroValue4
 i4:=by kernel_rfl
 t9:=Tryz.underlying9
 a9:=Tryz.isAgg9
 z9:=Tryz.sizeOf9
 v9:=Tryz.zeroValue9
 i9:=by kernel_rfl
 t21:=Tryz.underlying21
 a21:=Tryz.isAgg21
 z21:=Tryz.sizeOf21
 v21:=Tryz.zeroValue21
 i21:=by kernel_rfl
 t23:=Tryz.underlying81
 a23:=Tryz.isAgg81
 z23:=Tryz.sizeOf81
 v23:=Tryz.zeroValue81
 i23:=by kernel_rfl }
theorem eFD:∀ args w,(callFunc 51 args).run Tryz.prog w = .ok (.enter 51 args) w:=enters_of Tryz.func51 (by kernel_rfl) rfl
def fdB (b:UInt8):Bool:=forbD (b.toNat:Int)
theorem idx_ascii(p:Nat->Bool)(s:ByteArray)(ha:∀ (i:Nat) (h:i<s.size),(s[i]'h).toNat<128):∀ (f pos:Nat),s.size<=pos+f->decide (0<=Lib.idxFuncFrom p true s f pos)=((dl s).drop pos).any fun b=>p b.toNat
 | 0, pos, hf => by
  have:(dl s).drop pos=[]:=List.drop_of_length_le (by simp[dl];omega)
  rw[this]
  rfl
 | f + 1, pos, hf => by
  unfold Lib.idxFuncFrom
  by_cases hp:pos<s.size
  ·have hl:pos<(dl s).length:=by simpa[dl] using hp
   rw[if_pos hp,decode_ascii s pos hp (ha pos hp),List.drop_eq_getElem_cons hl,List.any_cons]
   have hg:(dl s)[pos]=s[pos]:=by simp[dl];rfl
   rw[hg]
   dsimp only
   by_cases h:p (s[pos]'hp).toNat=true
   ·rw[if_pos h,h,Bool.true_or]
    exact decide_eq_true (by omega)
   ·rw[if_neg h,idx_ascii p s ha f (pos+1) (by omega)]
    have:p (s[pos]'hp).toNat=false:=by simpa using h
    rw[this,Bool.false_or]
  ·have:(dl s).drop pos=[]:=List.drop_of_length_le (by simp[dl];omega)
   rw[if_neg hp,this]
   rfl
theorem ContainsD_any(s:ByteArray)(ha:∀ (i:Nat) (h:i<s.size),(s[i]'h).toNat<128)(w:World):Calls Tryz.prog 66 #[.string s,.func (.func 51) #[] #[]] w (Says ((dl s).any fdB) w):=by
 have:=Any.strings_ContainsFunc_grows cfLaid 51 #[] eFD (fun x=>forbD (x:Int)) s w (fun W x _ _=>(ForbD_any (x:Int) W).mono fun e w' h=>h)
 unfold Lib.idxFunc at this
 rw[idx_ascii _ s ha s.size 0 (by omega)]at this
 exact this
theorem sign_asc{d:Nat}(h:d<36):(Puny.sign d).toNat<128:=by
 rw[Puny.sign_nat h]
 split<;>omega
theorem encT_asc(l:List Nat):∀ b∈encT l,b.toNat<128:=by
 intro b hb
 unfold encT at hb
 rcases List.mem_append.1 hb with hb|hb
 ·rcases List.mem_append.1 hb with hb|hb
  ·obtain⟨n,hn,rfl⟩:=List.mem_map.1 hb
   have:=of_decide_eq_true (List.mem_filter.1 hn).2
   simp
   omega
  ·split at hb
   ·simp at hb
   ·simp at hb
    subst hb
    decide
 ·obtain⟨d,hd,rfl⟩:=List.mem_map.1 hb
  exact sign_asc (Puny.encD_lt _ _ _ _ d hd)
theorem asc_map{x:List Nat}(h:∀ y∈x,y<128):∀ b∈x.map UInt8.ofNat,b.toNat<128:=by
 intro b hb
 obtain⟨n,hn,rfl⟩:=List.mem_map.1 hb
 have:=h n hn
 simp
 omega
theorem rdv_asc{x:List Nat}{p:Prt}(h:rdv x = .inr p):∀ b∈p.1,b.toNat<128:=by
 rcases rdv_inr h with ⟨hA,o,_,rfl⟩|⟨_,_,rfl⟩
 ·show ∀ b∈dl (runesBytes (ofN x)),_
  rw[runes_asc (aL_asc hA)]
  exact asc_map (aL_asc hA)
 ·show ∀ b∈ascN x,_
  unfold ascN
  split
  ·intro b hb
   rcases List.mem_append.1 hb with hb|hb
   ·have h4:∀ c∈([120,110,45,45]:List UInt8),c.toNat<128:=by decide
    exact h4 b hb
   ·exact encT_asc x b hb
  ·rename_i hq
   have h128:=byd_none (l:=x) (by simpa using hq)
   rw[runes_asc h128]
   exact asc_map h128
theorem join_mem:∀ (ps:List (List UInt8)) (b:UInt8),b∈Lib.join ps [46]->b=46∨∃ p∈ps,b∈p
 | [],b,h=>by simp[Lib.join_nil]at h
 | [p], b, h => by
  rw[Lib.join_one]at h
  exact .inr ⟨p,List.mem_cons_self ..,h⟩
 | p :: q :: t, b, h => by
  rw[join_cons2 (by simp)]at h
  rcases List.mem_append.1 h with h|h
  ·rcases List.mem_append.1 h with h|h
   ·exact .inr ⟨p,List.mem_cons_self ..,h⟩
   ·exact .inl (by simpa using h)
  ·rcases join_mem (q::t) b h with h|⟨y,hy,h⟩
   ·exact .inl h
   ·exact .inr ⟨y,List.mem_cons_of_mem _ hy,h⟩
theorem tA_some{l:List Int}{t:List UInt8}(h:tA l=some t):good l=true/\∃ ps,rds (lab (toN (nfc (mapL l))))=some ps/\mapL l≠[]/\unr ps=false/\t=jnd ps:=by
 unfold tA at h
 by_cases hg:good l=false
 ·rw[if_pos hg]at h;cases h
 ·rw[if_neg hg]at h
  refine⟨by simpa using hg, ?_⟩
  cases hr:rds (lab (toN (nfc (mapL l)))) with
  | none=>rw[hr]at h;cases h
  | some ps =>
   rw[hr]at h
   dsimp only at h
   by_cases h1:mapL l=[]∨unr ps=true
   ·rw[if_pos h1]at h;cases h
   ·rw[if_neg h1]at h
    cases h
    exact⟨ps,rfl,fun e=>h1 (.inl e),by
     cases hu:unr ps with
     | false=>rfl
     | true=>exact absurd (.inr hu) h1,rfl⟩
theorem tA_asc{l:List Int}{t:List UInt8}(h:tA l=some t):∀ b∈t,b.toNat<128:=by
 obtain⟨_,ps,hr,_,_,rfl⟩:=tA_some h
 intro b hb
 rcases join_mem _ b hb with rfl|⟨p,hp,hb⟩
 ·decide
 ·obtain⟨q,hq,rfl⟩:=List.mem_map.1 hp
  obtain⟨x,_,hv⟩:=rds_mem hr q hq
  exact rdv_asc hv b hb
theorem tA_ascii{l:List Int}{s:ByteArray}(h:tA l=some (dl s)):∀ (i:Nat) (hi:i<s.size),(s[i]'hi).toNat<128:=by
 intro i hi
 have:(dl s)[i]'(by simpa[dl] using hi)=s[i]:=by simp[dl];rfl
 rw[<-this]
 exact tA_asc h _ (List.getElem_mem _)
theorem encT_len2{l:List Nat}(hs:∀ x∈l,Puny.sca x=true)(hl:l.length<=900):(encT l).length<=11*l.length+1:=by
 have h0:=deltas_len hs
 have h1:=encD_long _ _ 72 700 (ins_deltas l hs).2 (by omega)
 rw[encT_parts,List.length_append]
 have h2:(tl l).length<=11*(deltas l).length:=by unfold tl;rw[List.length_map];exact h1
 have h3:(hd l).length<=(Puny.basics l).length+1:=by
  unfold hd;rw[List.length_append,List.length_map];split<;>simp
 omega
theorem rdv_bytes2{x:List Nat}{p:Prt}(hs:∀ y∈x,Puny.sca y=true)(hl:x.length<=900)(h:rdv x = .inr p):p.1.length<=11*x.length+5:=by
 rcases rdv_inr h with ⟨hA,o,_,rfl⟩|⟨_,_,rfl⟩
 ·show (dl (runesBytes (ofN x))).length<=_
  rw[runes_asc (aL_asc hA),List.length_map]
  omega
 ·show (ascN x).length<=_
  unfold ascN
  split
  ·have:=encT_len2 hs hl
   simp
   omega
  ·rename_i h
   have hb:(ofN x).any byd=false:=by simpa using h
   rw[runes_asc (byd_none hb),List.length_map]
   omega
def tot (P:List (List Nat)):Nat:=(P.map List.length).sum
theorem tot_lab:∀ l,tot (lab l)<=l.length
 | []=>Nat.le_refl _
 | x :: t => by
  have ih:=tot_lab t
  have hne:=lab_ne t
  unfold lab
  by_cases e:x=46
  ·rw[if_pos e]
   show 0+tot (lab t)<=_
   rw[List.length_cons]
   omega
  ·rw[if_neg e]
   cases h:lab t with
   | nil=>exact absurd h hne
   | cons a b =>
    rw[h]at ih
    have e1:tot (a::b)=a.length+tot b:=rfl
    have e2:tot ((x::(a::b).headD [])::(a::b).tail)=(a.length+1)+tot b:=rfl
    rw[e2,List.length_cons]
    omega
theorem jnd_len:∀ {P:List (List Nat)} {ps:List Prt},(∀ x∈P,(∀ y∈x,Puny.sca y=true)/\x.length<=900)->rds P=some ps->(jnd ps).length<=11*tot P+6*P.length
 | [],ps,_,h=>by cases h;simp[jnd,Lib.join_nil]
 | x :: t, ps, hP, h => by
  cases hx:rdv x with
  | inl e=>rw[rds_cons_inl hx]at h;cases h
  | inr p =>
   rw[rds_cons_inr hx,Option.map_eq_some_iff]at h
   obtain⟨qs,hq,rfl⟩:=h
   have ih:=jnd_len (fun y hy=>hP y (List.mem_cons_of_mem _ hy)) hq
   obtain⟨h1,h2⟩:=hP x (List.mem_cons_self ..)
   have hb:=rdv_bytes2 h1 h2 hx
   have e1:tot (x::t)=x.length+tot t:=rfl
   rw[List.length_cons]
   cases qs with
   | nil =>
    show (Lib.join [p.1] [46]).length<=_
    rw[Lib.join_one]
    omega
   | cons q r =>
    have e2:jnd (p::q::r)=p.1++[46]++jnd (q::r):=join_cons2 (by simp) [46]
    have e3:([46]:List UInt8).length=1:=rfl
    rw[e2,List.length_append,List.length_append]
    omega
theorem tA_len{l:List Int}{t:List UInt8}(hF:Fits l)(h:tA l=some t):t.length<=300000:=by
 obtain⟨hg,ps,hr,_,_,rfl⟩:=tA_some h
 obtain⟨h1,h2,h3⟩:=hF hg
 have hsc:=mapL_sca hg
 have hc:C32 (mapL l):=fun x hx=>by have:=sca_pos (hsc x hx);omega
 have hn:=nfc_len (mapL l) hc
 have hs:=toN_sca (nfc_sca hsc)
 have hj:=jnd_len (fun x hx=>⟨fun y hy=>hs y ((lab_mem hx).1 y hy).1,h3 x hx⟩) hr
 have ht:=tot_lab (toN (nfc (mapL l)))
 have hl:(toN (nfc (mapL l))).length=(nfc (mapL l)).length:=by unfold toN;rw[List.length_map]
 omega
end Go.Proofs.YtkibdkfdffkkfaaGreatDoor.Hst
namespace Go.Proofs.YtkibdkfdffkkfaaGreatDoor.Hst
open Go.RowKit Utf Ut Remap Norm Pn Puny
abbrev hG (k:Int) (s:ByteArray) (f:Int):Value:=.agg #[.int .u8 k,.string s,.int .u32 f,.int .u16 0,.int .u16 0,.int .u16 0,.int .u16 0,.int .u16 0,.int .u16 0,.int .u16 0,.int .u16 0]
def pby (l:List Int):List Int:=pdec (dl (strOfNums (enc l)))
def dcd (l:List Int):List Int:=Utf.dec (pby l)
def pfo:Option Nat->Int ⊕ (List UInt8 ⊕ Nat)
 | none => .inl 30
 | some x => .inr (.inr x)
def nm2:Option (List UInt8)->Int ⊕ (List UInt8 ⊕ Nat)
 | none => .inl 32
 | some t=>if t.any fdB=true then .inl 32 else if Fou.ends t=false then .inr (.inl t) else pfo (Fou.ans t)
def nmd (l:List Int):Int ⊕ (List UInt8 ⊕ Nat):=nm2 (tA (dcd l))
def NmV:Int ⊕ (List UInt8 ⊕ Nat)->Array Value
 | .inl x=>#[hG 0 ⟨#[]⟩ 0,.int .i64 x]
 | .inr (.inl t)=>#[hG 2 (Fou.bs t) 0,.int .i64 0]
 | .inr (.inr x)=>#[hG 3 ⟨#[]⟩ (x:Int),.int .i64 0]
def NmR (v:Int ⊕ (List UInt8 ⊕ Nat)) (w:World) (e:Ending) (w':World):Prop:=e = .returned (.tuple (NmV v))/\Below w.heap.size w w'
theorem nmR_err{v:Int ⊕ (List UInt8 ⊕ Nat)}{x:Int}{w w':World}(h:v = .inl x)(hB:Below w.heap.size w w'):NmR v w (.returned (.tuple #[hG 0 ⟨#[]⟩ 0,.int .i64 x])) w':=by subst h;exact⟨rfl,hB⟩
theorem nmR_dom{v:Int ⊕ (List UInt8 ⊕ Nat)}{s:ByteArray}{w w':World}(h:v = .inr (.inl (dl s)))(hB:Below w.heap.size w w'):NmR v w (.returned (.tuple #[hG 2 s 0,.int .i64 0])) w':=by
 subst h
 refine⟨?_,hB⟩
 unfold NmV
 rw[Fou.bs_eq (s:=s) rfl]
 rfl
theorem nmR_four{v:Int ⊕ (List UInt8 ⊕ Nat)}{x:Nat}{w w':World}(h:v = .inr (.inr x))(hB:Below w.heap.size w w'):NmR v w (.returned (.tuple #[hG 3 ⟨#[]⟩ (x:Int),.int .i64 0])) w':=by subst h;exact⟨rfl,hB⟩
theorem cod_lt(l:List UInt8):(cod l).1<256:=by
 unfold cod
 split
 ·decide
 ·split
  ·split
   ·split
    ·rename_i h
     show Sx.dv _*16+Sx.dv _<256
     omega
    ·decide
   ·decide
  ·rename_i c t _
   exact c.toNat_lt
theorem pgo_byt:∀ (l:List UInt8) (k:Nat),Byt (pgo k l)
 | [],k=>by cases k<;>(intro x hx;simp[pgo]at hx)
 | c :: t, 0 => by
  intro x hx
  rw[pgo]at hx
  rcases List.mem_cons.1 hx with rfl|hx
  ·have:=cod_lt (c::t)
   omega
  ·exact pgo_byt t _ x hx
 | c :: t, k + 1 => by
  rw[pgo]
  exact pgo_byt t k
theorem pby_byt(l:List Int):Byt (pby l):=pgo_byt _ 0
theorem pby_len(l:List Int):(pby l).length<=4*l.length:=by
 have h1:=pdec_le (dl (strOfNums (enc l))) 0
 have h2:(dl (strOfNums (enc l))).length=(enc l).length:=by simp[dl,strOfNums]
 have h3:=enc_len_le l
 unfold pby pdec
 omega
theorem named_any(l:List Int)(A:Option Addr)(n c:Nat)(w:World)(hn:l.length=n)(hl:n<=5000)(hd2:(dcd l).length<=2000)(hF:Fits (dcd l))(hr:Row w w.heap.size A (cl .i32 l)):Calls Tryz.prog 48 #[.slice A n c] w (NmR (nmd l) w):=by
 have hB0:=upA w (.cells #[.int .u8 0,.string ⟨#[]⟩,.int .u32 0,.int .u16 0,.int .u16 0,.int .u16 0,.int .u16 0,.int .u16 0,.int .u16 0,.int .u16 0,.int .u16 0] 28)
 have hr1:=(hr.below hB0).mono hB0.size
 obtain⟨w1,hw1⟩:∃ w1,w.alloc (.cells #[.int .u8 0,.string ⟨#[]⟩,.int .u32 0,.int .u16 0,.int .u16 0,.int .u16 0,.int .u16 0,.int .u16 0,.int .u16 0,.int .u16 0,.int .u16 0] 28)=w1:=⟨_,rfl⟩
 rw[hw1]at hB0 hr1
 have HB0:=Lib.hid hB0
 have HBL:Hid (∀ W,Below w1.heap.size w1 W->W.heap[w.heap.size]? = some (.cells #[.int .u8 0,.string ⟨#[]⟩,.int .u32 0,.int .u16 0,.int .u16 0,.int .u16 0,.int .u16 0,.int .u16 0,.int .u16 0,.int .u16 0,.int .u16 0] 28 (0,0))):=Lib.hid (fun W h=>by
  have e:w1.heap[w.heap.size]? = some (.cells #[.int .u8 0,.string ⟨#[]⟩,.int .u32 0,.int .u16 0,.int .u16 0,.int .u16 0,.int .u16 0,.int .u16 0,.int .u16 0,.int .u16 0,.int .u16 0] 28 (0,0)):=by rw[<-hw1];exact World.alloc_heap_new w _
  exact (h.block _ (Array.getElem?_eq_some_iff.1 e).1).trans e)
 have HEN:=Lib.hid (Encode_any l A n c w1 hn (by omega) hr1)
 unfold MadeBytes at HEN
 have hpl:=pby_len l
 have hel:=enc_len_le l
 have hsz:(strOfNums (enc l)).size<=100000:=by
  have:=strOfNums_size (enc l)
  omega
 have HPD:=Lib.hid (fun W=>PDecode_any (strOfNums (enc l)) hsz W)
 have HPB:=Lib.hid (pby_byt l)
 have HNV:Hid (nmd l=nm2 (tA (dcd l))):=Lib.hid rfl
 have HFI:=Lib.hid hF
 unfold MadeBytes at HPD
 rw[show pdec (dl (strOfNums (enc l)))=pby l from rfl]at HPD
 have HDE:Hid (∀ (A1:Option Addr) (c1:Nat) (W:World),(pby l).length<=c1->Row W W.heap.size A1 (cl .u8 (pby l))->Calls Tryz.prog 37 #[.slice A1 (pby l).length c1] W (MadeRunes (dcd l) W)):=Lib.hid (fun A1 c1 W h1 h2=>Decode_any (pby l) A1 (pby l).length c1 W rfl h1 (by omega) HPB.out h2)
 unfold MadeRunes at HDE
 have HTA:Hid (∀ (A1:Option Addr) (c1:Nat) (W:World),Row W W.heap.size A1 (cl .i32 (dcd l))->Calls Tryz.prog 88 #[.slice A1 (dcd l).length c1] W (ToR (dcd l) W)):=Lib.hid (fun A1 c1 W h=>ToASCII_any (dcd l) A1 (dcd l).length c1 W rfl hd2 HFI.out h)
 obtain⟨E,hE⟩:∃ E,enc l=E:=⟨_,rfl⟩
 rw[hE]at HEN HPD
 obtain⟨p,hp⟩:∃ p,pby l=p:=⟨_,rfl⟩
 rw[hp]at HPD HDE hpl HPB
 obtain⟨d,hd⟩:∃ d,dcd l=d:=⟨_,rfl⟩
 rw[hd]at HDE HTA hd2 HNV HFI
 obtain⟨s0,hs0⟩:∃ s0,strOfNums E=s0:=⟨_,rfl⟩
 rw[hs0]at HPD
 have HS0:=Lib.hid hs0
 clear hE hp hd hs0 hr hr1 hn hel hsz hF hB0
 go_enter Tryz.func48,Tryz.ntmps48
 go_upto_region 1 with fail
 clear hw1
 go_wp2_with fail
 refine HEN.out.mono ?_
 rintro e w2 ⟨v2,rfl,hO2,hB2⟩
 obtain⟨A2,c2,rfl,_,hr2⟩:=own_form hO2
 have hcv:=conv_row (c:=c2) rfl hr2
 rw[HS0.out]at hcv
 clear hO2
 go_wp2_with fail
 refine (HPD.out _).mono ?_
 rintro e w3 ⟨v3,rfl,hO3,hB3⟩
 obtain⟨A3,c3,rfl,hc3,hr3⟩:=own_form hO3
 clear hO3
 go_wp2_with fail
 refine (HDE.out _ _ _ hc3 hr3).mono ?_
 rintro e w4 ⟨v4,rfl,hO4,hB4⟩
 obtain⟨A4,c4,rfl,hc4,hr4⟩:=own_form hO4
 clear hO4
 go_wp2_with fail
 have HB4:=Lib.hid (upB (upB hB2 hB3) hB4)
 refine (HTA.out _ _ _ hr4).mono ?_
 rintro e w5 (⟨hno,x,hx,rfl,hB5⟩|⟨s,hs,rfl,hB5⟩)
 ·have hxz:(x != 0)=true:=by simpa using hx
  have HV:Hid (nmd l = .inl 32):=Lib.hid (by rw[HNV.out,hno];rfl)
  have HB5:=Lib.hid (upB HB4.out hB5)
  clear hx hno hr2 hr3 hr4 hcv
  go_upto_region 4 with fail
  have hb:=HBL.out w5 HB5.out
  have e0:w5.cell? ⟨w.heap.size,0,none⟩=some (.int .u8 0):=by simp[World.cell?,hb]
  have f0:w5.frozen? ⟨w.heap.size,0,none⟩=false:=by simp[World.frozen?,hb]
  have e1:w5.cell? ⟨w.heap.size,1,none⟩=some (.string ⟨#[]⟩):=by simp[World.cell?,hb]
  have f1:w5.frozen? ⟨w.heap.size,1,none⟩=false:=by simp[World.frozen?,hb]
  have e2:w5.cell? ⟨w.heap.size,2,none⟩=some (.int .u32 0):=by simp[World.cell?,hb]
  have f2:w5.frozen? ⟨w.heap.size,2,none⟩=false:=by simp[World.frozen?,hb]
  have e3:w5.cell? ⟨w.heap.size,3,none⟩=some (.int .u16 0):=by simp[World.cell?,hb]
  have f3:w5.frozen? ⟨w.heap.size,3,none⟩=false:=by simp[World.frozen?,hb]
  have e4:w5.cell? ⟨w.heap.size,4,none⟩=some (.int .u16 0):=by simp[World.cell?,hb]
  have f4:w5.frozen? ⟨w.heap.size,4,none⟩=false:=by simp[World.frozen?,hb]
  have e5:w5.cell? ⟨w.heap.size,5,none⟩=some (.int .u16 0):=by simp[World.cell?,hb]
  have f5:w5.frozen? ⟨w.heap.size,5,none⟩=false:=by simp[World.frozen?,hb]
  have e6:w5.cell? ⟨w.heap.size,6,none⟩=some (.int .u16 0):=by simp[World.cell?,hb]
  have f6:w5.frozen? ⟨w.heap.size,6,none⟩=false:=by simp[World.frozen?,hb]
  have e7:w5.cell? ⟨w.heap.size,7,none⟩=some (.int .u16 0):=by simp[World.cell?,hb]
  have f7:w5.frozen? ⟨w.heap.size,7,none⟩=false:=by simp[World.frozen?,hb]
  have e8:w5.cell? ⟨w.heap.size,8,none⟩=some (.int .u16 0):=by simp[World.cell?,hb]
  have f8:w5.frozen? ⟨w.heap.size,8,none⟩=false:=by simp[World.frozen?,hb]
  have e9:w5.cell? ⟨w.heap.size,9,none⟩=some (.int .u16 0):=by simp[World.cell?,hb]
  have f9:w5.frozen? ⟨w.heap.size,9,none⟩=false:=by simp[World.frozen?,hb]
  have e10:w5.cell? ⟨w.heap.size,10,none⟩=some (.int .u16 0):=by simp[World.cell?,hb]
  have f10:w5.frozen? ⟨w.heap.size,10,none⟩=false:=by simp[World.frozen?,hb]
  go_wp2_with fail
  refine bodyPost_ret (v:=.tuple #[hG 0 ⟨#[]⟩ 0,.int .i64 32]) (Sx.results_two (u:=3) Tryz.results48 rfl ?_ rfl) rfl ?_
  ·go_simp
   done
  ·exact nmR_err HV.out ((((((((((((upB HB0.out HB5.out).setCell (Nat.le_refl _) _).setCell (Nat.le_refl _) _).setCell (Nat.le_refl _) _).setCell (Nat.le_refl _) _).setCell (Nat.le_refl _) _).setCell (Nat.le_refl _) _).setCell (Nat.le_refl _) _).setCell (Nat.le_refl _) _).setCell (Nat.le_refl _) _).setCell (Nat.le_refl _) _).setCell (Nat.le_refl _) _)
 ·have hsz5:s.size<=1000000:=by
   have h1:=tA_len HFI.out hs
   have h2:(dl s).length=s.size:=by simp[dl]
   omega
  have HCF:=Lib.hid (fun W=>ContainsD_any s (tA_ascii hs) W)
  have HEN5:=Lib.hid (fun W=>Fou.Ends_any s hsz5 W)
  have HPA:=Lib.hid (fun W=>Fou.Parse_any s hsz5 W)
  have HB5:=Lib.hid (upB HB4.out hB5)
  have HV1:Hid (nmd l=if (dl s).any fdB=true then .inl 32 else if Fou.ends (dl s)=false then .inr (.inl (dl s)) else pfo (Fou.ans (dl s))):=Lib.hid (by rw[HNV.out,hs];rfl)
  obtain⟨q,hq⟩:∃ q,(dl s).any fdB=q:=⟨_,rfl⟩
  rw[hq]at HCF HV1
  obtain⟨g,hg⟩:∃ g,Fou.ends (dl s)=g:=⟨_,rfl⟩
  have HEN6:Hid (∀ W,Calls Tryz.prog 17 #[.string s] W (Fou.Says g W)):=Lib.hid (by rw[<-hg];exact HEN5.out)
  rw[hg]at HV1
  obtain⟨a,ha⟩:∃ a,Fou.ans (dl s)=a:=⟨_,rfl⟩
  have HPA6:Hid (∀ W,Calls Tryz.prog 89 #[.string s] W (Fou.Parsed a W)):=Lib.hid (by rw[<-ha];exact HPA.out)
  rw[ha]at HV1
  clear hq hg ha hs hr2 hr3 hr4 hcv HPA HEN5
  cases q with
  | true =>
   have HV:Hid (nmd l = .inl 32):=Lib.hid (by rw[HV1.out,if_pos rfl])
   go_upto_region 4 with(first|(go_at_call 66;refine (HCF.out _).mono ?_;rintro e w6 ⟨rfl,hB6⟩)|fail)
   have HB6:=Lib.hid (upB HB5.out hB6)
   have hb:=HBL.out w6 HB6.out
   have e0:w6.cell? ⟨w.heap.size,0,none⟩=some (.int .u8 0):=by simp[World.cell?,hb]
   have f0:w6.frozen? ⟨w.heap.size,0,none⟩=false:=by simp[World.frozen?,hb]
   have e1:w6.cell? ⟨w.heap.size,1,none⟩=some (.string ⟨#[]⟩):=by simp[World.cell?,hb]
   have f1:w6.frozen? ⟨w.heap.size,1,none⟩=false:=by simp[World.frozen?,hb]
   have e2:w6.cell? ⟨w.heap.size,2,none⟩=some (.int .u32 0):=by simp[World.cell?,hb]
   have f2:w6.frozen? ⟨w.heap.size,2,none⟩=false:=by simp[World.frozen?,hb]
   have e3:w6.cell? ⟨w.heap.size,3,none⟩=some (.int .u16 0):=by simp[World.cell?,hb]
   have f3:w6.frozen? ⟨w.heap.size,3,none⟩=false:=by simp[World.frozen?,hb]
   have e4:w6.cell? ⟨w.heap.size,4,none⟩=some (.int .u16 0):=by simp[World.cell?,hb]
   have f4:w6.frozen? ⟨w.heap.size,4,none⟩=false:=by simp[World.frozen?,hb]
   have e5:w6.cell? ⟨w.heap.size,5,none⟩=some (.int .u16 0):=by simp[World.cell?,hb]
   have f5:w6.frozen? ⟨w.heap.size,5,none⟩=false:=by simp[World.frozen?,hb]
   have e6:w6.cell? ⟨w.heap.size,6,none⟩=some (.int .u16 0):=by simp[World.cell?,hb]
   have f6:w6.frozen? ⟨w.heap.size,6,none⟩=false:=by simp[World.frozen?,hb]
   have e7:w6.cell? ⟨w.heap.size,7,none⟩=some (.int .u16 0):=by simp[World.cell?,hb]
   have f7:w6.frozen? ⟨w.heap.size,7,none⟩=false:=by simp[World.frozen?,hb]
   have e8:w6.cell? ⟨w.heap.size,8,none⟩=some (.int .u16 0):=by simp[World.cell?,hb]
   have f8:w6.frozen? ⟨w.heap.size,8,none⟩=false:=by simp[World.frozen?,hb]
   have e9:w6.cell? ⟨w.heap.size,9,none⟩=some (.int .u16 0):=by simp[World.cell?,hb]
   have f9:w6.frozen? ⟨w.heap.size,9,none⟩=false:=by simp[World.frozen?,hb]
   have e10:w6.cell? ⟨w.heap.size,10,none⟩=some (.int .u16 0):=by simp[World.cell?,hb]
   have f10:w6.frozen? ⟨w.heap.size,10,none⟩=false:=by simp[World.frozen?,hb]
   go_wp2_with fail
   refine bodyPost_ret (v:=.tuple #[hG 0 ⟨#[]⟩ 0,.int .i64 32]) (Sx.results_two (u:=3) Tryz.results48 rfl ?_ rfl) rfl ?_
   ·go_simp
    done
   ·exact nmR_err HV.out ((((((((((((upB HB0.out HB6.out).setCell (Nat.le_refl _) _).setCell (Nat.le_refl _) _).setCell (Nat.le_refl _) _).setCell (Nat.le_refl _) _).setCell (Nat.le_refl _) _).setCell (Nat.le_refl _) _).setCell (Nat.le_refl _) _).setCell (Nat.le_refl _) _).setCell (Nat.le_refl _) _).setCell (Nat.le_refl _) _).setCell (Nat.le_refl _) _)
  | false =>
   have HV2:Hid (nmd l=if g=false then .inr (.inl (dl s)) else pfo a):=Lib.hid (by rw[HV1.out,if_neg (by decide)])
   go_upto_region 5 with(first|(go_at_call 66;refine (HCF.out _).mono ?_;rintro e w6 ⟨rfl,hB6⟩)|fail)
   have HB6:=Lib.hid (upB HB5.out hB6)
   clear hB6
   cases g with
   | false =>
    have HV:Hid (nmd l = .inr (.inl (dl s))):=Lib.hid (by rw[HV2.out,if_pos rfl])
    go_upto_region 6 with(first|(go_at_call 17;refine (HEN6.out _).mono ?_;rintro e w7 ⟨rfl,hB7⟩)|fail)
    have HB7:=Lib.hid (upB HB6.out hB7)
    have hb:=HBL.out w7 HB7.out
    have e0:w7.cell? ⟨w.heap.size,0,none⟩=some (.int .u8 0):=by simp[World.cell?,hb]
    have f0:w7.frozen? ⟨w.heap.size,0,none⟩=false:=by simp[World.frozen?,hb]
    have e1:w7.cell? ⟨w.heap.size,1,none⟩=some (.string ⟨#[]⟩):=by simp[World.cell?,hb]
    have f1:w7.frozen? ⟨w.heap.size,1,none⟩=false:=by simp[World.frozen?,hb]
    have e2:w7.cell? ⟨w.heap.size,2,none⟩=some (.int .u32 0):=by simp[World.cell?,hb]
    have f2:w7.frozen? ⟨w.heap.size,2,none⟩=false:=by simp[World.frozen?,hb]
    have e3:w7.cell? ⟨w.heap.size,3,none⟩=some (.int .u16 0):=by simp[World.cell?,hb]
    have f3:w7.frozen? ⟨w.heap.size,3,none⟩=false:=by simp[World.frozen?,hb]
    have e4:w7.cell? ⟨w.heap.size,4,none⟩=some (.int .u16 0):=by simp[World.cell?,hb]
    have f4:w7.frozen? ⟨w.heap.size,4,none⟩=false:=by simp[World.frozen?,hb]
    have e5:w7.cell? ⟨w.heap.size,5,none⟩=some (.int .u16 0):=by simp[World.cell?,hb]
    have f5:w7.frozen? ⟨w.heap.size,5,none⟩=false:=by simp[World.frozen?,hb]
    have e6:w7.cell? ⟨w.heap.size,6,none⟩=some (.int .u16 0):=by simp[World.cell?,hb]
    have f6:w7.frozen? ⟨w.heap.size,6,none⟩=false:=by simp[World.frozen?,hb]
    have e7:w7.cell? ⟨w.heap.size,7,none⟩=some (.int .u16 0):=by simp[World.cell?,hb]
    have f7:w7.frozen? ⟨w.heap.size,7,none⟩=false:=by simp[World.frozen?,hb]
    have e8:w7.cell? ⟨w.heap.size,8,none⟩=some (.int .u16 0):=by simp[World.cell?,hb]
    have f8:w7.frozen? ⟨w.heap.size,8,none⟩=false:=by simp[World.frozen?,hb]
    have e9:w7.cell? ⟨w.heap.size,9,none⟩=some (.int .u16 0):=by simp[World.cell?,hb]
    have f9:w7.frozen? ⟨w.heap.size,9,none⟩=false:=by simp[World.frozen?,hb]
    have e10:w7.cell? ⟨w.heap.size,10,none⟩=some (.int .u16 0):=by simp[World.cell?,hb]
    have f10:w7.frozen? ⟨w.heap.size,10,none⟩=false:=by simp[World.frozen?,hb]
    go_wp2_with fail
    refine bodyPost_ret (v:=.tuple #[hG 2 s 0,.int .i64 0]) (Sx.results_two (u:=3) Tryz.results48 rfl ?_ rfl) rfl ?_
    ·go_simp
     done
    ·exact nmR_dom HV.out ((((((((((((upB HB0.out HB7.out).setCell (Nat.le_refl _) _).setCell (Nat.le_refl _) _).setCell (Nat.le_refl _) _).setCell (Nat.le_refl _) _).setCell (Nat.le_refl _) _).setCell (Nat.le_refl _) _).setCell (Nat.le_refl _) _).setCell (Nat.le_refl _) _).setCell (Nat.le_refl _) _).setCell (Nat.le_refl _) _).setCell (Nat.le_refl _) _)
   | true =>
    have HV3:Hid (nmd l=pfo a):=Lib.hid (by rw[HV2.out,if_neg (by decide)])
    go_upto_region 7 with(first|(go_at_call 17;refine (HEN6.out _).mono ?_;rintro e w7 ⟨rfl,hB7⟩)|fail)
    have HB7:=Lib.hid (upB HB6.out hB7)
    clear hB7
    unfold Fou.Parsed at HPA6
    cases a with
    | none =>
     have HV:Hid (nmd l = .inl 30):=Lib.hid HV3.out
     go_upto_region 9 with(first|(go_at_call 89;refine (HPA6.out _).mono ?_;rintro e w8 ⟨rfl,hB8⟩)|fail)
     have HB8:=Lib.hid (upB HB7.out hB8)
     have hb:=HBL.out w8 HB8.out
     have e0:w8.cell? ⟨w.heap.size,0,none⟩=some (.int .u8 0):=by simp[World.cell?,hb]
     have f0:w8.frozen? ⟨w.heap.size,0,none⟩=false:=by simp[World.frozen?,hb]
     have e1:w8.cell? ⟨w.heap.size,1,none⟩=some (.string ⟨#[]⟩):=by simp[World.cell?,hb]
     have f1:w8.frozen? ⟨w.heap.size,1,none⟩=false:=by simp[World.frozen?,hb]
     have e2:w8.cell? ⟨w.heap.size,2,none⟩=some (.int .u32 0):=by simp[World.cell?,hb]
     have f2:w8.frozen? ⟨w.heap.size,2,none⟩=false:=by simp[World.frozen?,hb]
     have e3:w8.cell? ⟨w.heap.size,3,none⟩=some (.int .u16 0):=by simp[World.cell?,hb]
     have f3:w8.frozen? ⟨w.heap.size,3,none⟩=false:=by simp[World.frozen?,hb]
     have e4:w8.cell? ⟨w.heap.size,4,none⟩=some (.int .u16 0):=by simp[World.cell?,hb]
     have f4:w8.frozen? ⟨w.heap.size,4,none⟩=false:=by simp[World.frozen?,hb]
     have e5:w8.cell? ⟨w.heap.size,5,none⟩=some (.int .u16 0):=by simp[World.cell?,hb]
     have f5:w8.frozen? ⟨w.heap.size,5,none⟩=false:=by simp[World.frozen?,hb]
     have e6:w8.cell? ⟨w.heap.size,6,none⟩=some (.int .u16 0):=by simp[World.cell?,hb]
     have f6:w8.frozen? ⟨w.heap.size,6,none⟩=false:=by simp[World.frozen?,hb]
     have e7:w8.cell? ⟨w.heap.size,7,none⟩=some (.int .u16 0):=by simp[World.cell?,hb]
     have f7:w8.frozen? ⟨w.heap.size,7,none⟩=false:=by simp[World.frozen?,hb]
     have e8:w8.cell? ⟨w.heap.size,8,none⟩=some (.int .u16 0):=by simp[World.cell?,hb]
     have f8:w8.frozen? ⟨w.heap.size,8,none⟩=false:=by simp[World.frozen?,hb]
     have e9:w8.cell? ⟨w.heap.size,9,none⟩=some (.int .u16 0):=by simp[World.cell?,hb]
     have f9:w8.frozen? ⟨w.heap.size,9,none⟩=false:=by simp[World.frozen?,hb]
     have e10:w8.cell? ⟨w.heap.size,10,none⟩=some (.int .u16 0):=by simp[World.cell?,hb]
     have f10:w8.frozen? ⟨w.heap.size,10,none⟩=false:=by simp[World.frozen?,hb]
     go_wp2_with fail
     refine bodyPost_ret (v:=.tuple #[hG 0 ⟨#[]⟩ 0,.int .i64 30]) (Sx.results_two (u:=3) Tryz.results48 rfl ?_ rfl) rfl ?_
     ·go_simp
      done
     ·exact nmR_err HV.out ((((((((((((upB HB0.out HB8.out).setCell (Nat.le_refl _) _).setCell (Nat.le_refl _) _).setCell (Nat.le_refl _) _).setCell (Nat.le_refl _) _).setCell (Nat.le_refl _) _).setCell (Nat.le_refl _) _).setCell (Nat.le_refl _) _).setCell (Nat.le_refl _) _).setCell (Nat.le_refl _) _).setCell (Nat.le_refl _) _).setCell (Nat.le_refl _) _)
    | some x =>
     have HV:Hid (nmd l = .inr (.inr x)):=Lib.hid HV3.out
     go_upto_region 10 with(first|(go_at_call 89;refine (HPA6.out _).mono ?_;rintro e w8 ⟨rfl,hB8⟩)|fail)
     have HB8:=Lib.hid (upB HB7.out hB8)
     have hb:=HBL.out w8 HB8.out
     have e0:w8.cell? ⟨w.heap.size,0,none⟩=some (.int .u8 0):=by simp[World.cell?,hb]
     have f0:w8.frozen? ⟨w.heap.size,0,none⟩=false:=by simp[World.frozen?,hb]
     have e1:w8.cell? ⟨w.heap.size,1,none⟩=some (.string ⟨#[]⟩):=by simp[World.cell?,hb]
     have f1:w8.frozen? ⟨w.heap.size,1,none⟩=false:=by simp[World.frozen?,hb]
     have e2:w8.cell? ⟨w.heap.size,2,none⟩=some (.int .u32 0):=by simp[World.cell?,hb]
     have f2:w8.frozen? ⟨w.heap.size,2,none⟩=false:=by simp[World.frozen?,hb]
     have e3:w8.cell? ⟨w.heap.size,3,none⟩=some (.int .u16 0):=by simp[World.cell?,hb]
     have f3:w8.frozen? ⟨w.heap.size,3,none⟩=false:=by simp[World.frozen?,hb]
     have e4:w8.cell? ⟨w.heap.size,4,none⟩=some (.int .u16 0):=by simp[World.cell?,hb]
     have f4:w8.frozen? ⟨w.heap.size,4,none⟩=false:=by simp[World.frozen?,hb]
     have e5:w8.cell? ⟨w.heap.size,5,none⟩=some (.int .u16 0):=by simp[World.cell?,hb]
     have f5:w8.frozen? ⟨w.heap.size,5,none⟩=false:=by simp[World.frozen?,hb]
     have e6:w8.cell? ⟨w.heap.size,6,none⟩=some (.int .u16 0):=by simp[World.cell?,hb]
     have f6:w8.frozen? ⟨w.heap.size,6,none⟩=false:=by simp[World.frozen?,hb]
     have e7:w8.cell? ⟨w.heap.size,7,none⟩=some (.int .u16 0):=by simp[World.cell?,hb]
     have f7:w8.frozen? ⟨w.heap.size,7,none⟩=false:=by simp[World.frozen?,hb]
     have e8:w8.cell? ⟨w.heap.size,8,none⟩=some (.int .u16 0):=by simp[World.cell?,hb]
     have f8:w8.frozen? ⟨w.heap.size,8,none⟩=false:=by simp[World.frozen?,hb]
     have e9:w8.cell? ⟨w.heap.size,9,none⟩=some (.int .u16 0):=by simp[World.cell?,hb]
     have f9:w8.frozen? ⟨w.heap.size,9,none⟩=false:=by simp[World.frozen?,hb]
     have e10:w8.cell? ⟨w.heap.size,10,none⟩=some (.int .u16 0):=by simp[World.cell?,hb]
     have f10:w8.frozen? ⟨w.heap.size,10,none⟩=false:=by simp[World.frozen?,hb]
     go_wp2_with fail
     refine bodyPost_ret (v:=.tuple #[hG 3 ⟨#[]⟩ (x:Int),.int .i64 0]) (Sx.results_two (u:=3) Tryz.results48 rfl ?_ rfl) rfl ?_
     ·go_simp
      done
     ·exact nmR_four HV.out ((((((((((((upB HB0.out HB8.out).setCell (Nat.le_refl _) _).setCell (Nat.le_refl _) _).setCell (Nat.le_refl _) _).setCell (Nat.le_refl _) _).setCell (Nat.le_refl _) _).setCell (Nat.le_refl _) _).setCell (Nat.le_refl _) _).setCell (Nat.le_refl _) _).setCell (Nat.le_refl _) _).setCell (Nat.le_refl _) _).setCell (Nat.le_refl _) _)
end Go.Proofs.YtkibdkfdffkkfaaGreatDoor.Hst
namespace Go.Proofs.YtkibdkfdffkkfaaGreatDoor.Sx
open Go.RowKit Go.Shelf
theorem eight{x:List Nat}(h:x.length=8):∃ a b c d e f g i,x=[a,b,c,d,e,f,g,i]:=by
 rcases x with _|⟨a,_|⟨b,_|⟨c,_|⟨d,_|⟨e,_|⟨f,_|⟨g,_|⟨i,_|⟨j,t⟩⟩⟩⟩⟩⟩⟩⟩⟩
 ·simp at h
 ·simp at h
 ·simp at h
 ·simp at h
 ·simp at h
 ·simp at h
 ·simp at h
 ·simp at h
 ·exact⟨a,b,c,d,e,f,g,i,rfl⟩
 ·simp at h
theorem Hx.eight{w:World}{B x0 x1 x2 x3 x4 x5 x6 x7:Nat}(h:Hx w B [x0,x1,x2,x3,x4,x5,x6,x7]):w.cell? ⟨B,0,none⟩=some (.int .u16 (x0:Int))/\w.cell? ⟨B,1,none⟩=some (.int .u16 (x1:Int))/\w.cell? ⟨B,2,none⟩=some (.int .u16 (x2:Int))/\w.cell? ⟨B,3,none⟩=some (.int .u16 (x3:Int))/\w.cell? ⟨B,4,none⟩=some (.int .u16 (x4:Int))/\w.cell? ⟨B,5,none⟩=some (.int .u16 (x5:Int))/\w.cell? ⟨B,6,none⟩=some (.int .u16 (x6:Int))/\w.cell? ⟨B,7,none⟩=some (.int .u16 (x7:Int)) :=
 ⟨h.cell (k:=0) (by simp),h.cell (k:=1) (by simp),h.cell (k:=2) (by simp),h.cell (k:=3) (by simp),h.cell (k:=4) (by simp),h.cell (k:=5) (by simp),h.cell (k:=6) (by simp),h.cell (k:=7) (by simp)⟩
end Go.Proofs.YtkibdkfdffkkfaaGreatDoor.Sx
