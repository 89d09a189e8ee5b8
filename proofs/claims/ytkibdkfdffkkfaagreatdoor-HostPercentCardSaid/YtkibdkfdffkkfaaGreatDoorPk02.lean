import Derived.Below
import Derived.Maps.AppendAt
import Derived.Deep.Draws
import Derived.OpenShut
import Derived.RangeFuncBox
import Derived.WalkKit
import Derived.Test.YtkibdkfdffkkfaaGreatDoorPk38
import Derived.Test.YtkibdkfdffkkfaaGreatDoorChecked
import Derived.Lib.Hide
import Derived.Handy
import Derived.Deep.QuietTactic
import Derived.BigQuiet
set_option maxRecDepth 100000
set_option maxHeartbeats 8000000
namespace Go.Proofs.YtkibdkfdffkkfaaGreatDoor
open Go.RowKit
def Row (w:World) (B:Nat) (A:Option Addr) (xs:List Value):Prop :=
 xs=[]∨∃ b o,A=some ⟨b,o,none⟩/\b<B/\∀ k,k<xs.length->w.cell? ⟨b,o+k,none⟩=xs[k]?
section
variable {w w':World} {B B':Nat} {A:Option Addr} {xs:List Value}
theorem Row.empty:Row w B A []:=.inl rfl
theorem Row.keep(h:Row w B A xs)(hk:∀ b o,b<B->w'.cell? ⟨b,o,none⟩=w.cell? ⟨b,o,none⟩):Row w' B A xs:=by
 rcases h with h|⟨b,o,hA,hb,hc⟩
 ·exact .inl h
 ·exact .inr ⟨b,o,hA,hb,fun k hkl=>(hk b _ hb).trans (hc k hkl)⟩
theorem Row.mono(h:Row w B A xs)(hB:B<=B'):Row w B' A xs:=by
 rcases h with h|⟨b,o,hA,hb,hc⟩
 ·exact .inl h
 ·exact .inr ⟨b,o,hA,by omega,hc⟩
theorem Row.below(h:Row w B A xs)(hb:Below B w w'):Row w' B A xs:=h.keep fun b o hlt=>hb.cell (p:=⟨b,o,none⟩) hlt
theorem Row.at_(h:Row w B A xs)(hp:0<xs.length):∃ b o,A=some ⟨b,o,none⟩/\b<B/\∀ k,k<xs.length->w.cell? ⟨b,o+k,none⟩=xs[k]?:=by
 rcases h with rfl|h
 ·simp at hp
 ·exact h
theorem Row.of_own{base:Nat}{e:TypeId}{size n c:Nat}(h:w.ownsRow base e size (.slice A n c) n xs):Row w w.heap.size A xs:=by
 rcases Nat.eq_zero_or_pos xs.length with h0|h0
 ·exact .inl (List.eq_nil_of_length_eq_zero h0)
 ·rcases h.2 with ⟨_,h2⟩|⟨g,cap,cur,hv,_,hg,_,_,_,ht⟩
  ·have:=h.1;rw[h2]at this;omega
  ·have hA:A=some ⟨g,0,none⟩:=by injection hv
   refine .inr ⟨g,0,hA,(Array.getElem?_eq_some_iff.1 hg).1,fun k hk => ?_⟩
   subst hA
   obtain rfl:c=cap:=by injection hv
   rw[Nat.zero_add]
   exact h.cellAt k (by rw[<-h.1];exact hk)
theorem Row.sub(h:Row w B A xs){l n cap m:Nat}(hl:l+n<=xs.length)(hc:0<n->cap≠l) :
  Row w B (if cap=l then A else A.map (·.add l)) ((xs.drop l).take n)/\(m=l->Row w B (A.map (·.add m)) ((xs.drop l).take n)):=by
 rcases Nat.eq_zero_or_pos n with rfl|hn
 ·simp[Row.empty]
 ·obtain⟨b,o,rfl,hb,hcell⟩:=h.at_ (by omega)
  have key:Row w B ((some ⟨b,o,none⟩:Option Addr).map (·.add l)) ((xs.drop l).take n):=by
   refine .inr ⟨b,o+l, ?_,hb,fun k hk => ?_⟩
   ·simp only[Option.map_some,Addr.add]
    split
    ·rename_i e;rw[e];rfl
    ·rfl
   ·rw[List.length_take,List.length_drop]at hk
    rw[List.getElem?_take,if_pos (by omega),List.getElem?_drop,Nat.add_assoc]
    exact hcell _ (by omega)
  exact⟨by rw[if_neg (hc hn)];exact key,fun e=>by rw[e];exact key⟩
end
theorem news_new(w:World)(cs:Array Value)(t:TypeId)(news:List Value)(h:cs.toList=news) :
  ∀ j u,news[j]? = some u->(w.alloc (.cells cs t)).cell? ((⟨w.heap.size,0,none⟩:Addr).add j)=some u:=by
 intro j u hj
 rw[Go.WideShapes.add_plain,Nat.zero_add,cell_of_row _ _ _ cs t (0,0) (World.alloc_heap_new w _),<-hj,<-h]
 simp
theorem row_new(w:World)(cs:Array Value)(t:TypeId)(news:List Value)(h:cs.toList=news):Row (w.alloc (.cells cs t)) (w.heap.size+1) (some ⟨w.heap.size,0,none⟩) news:=by
 refine .inr ⟨w.heap.size,0,rfl,by omega,fun k hk => ?_⟩
 rw[Nat.zero_add,cell_of_row _ _ _ cs t (0,0) (World.alloc_heap_new w _),<-h]
 simp
abbrev cl (k:IntKind) (l:List Int):List Value:=l.map (Value.int k)
theorem cl_get(k:IntKind)(l:List Int)(i:Nat)(h:i<l.length):(cl k l)[i]? = some (.int k l[i]):=by simp[h]
theorem ret_val{a b:Value}(h:a=b):Ending.returned a = .returned b:=by rw[h]
theorem ret_int{k:IntKind}{a b:Int}(h:a=b):Ending.returned (.int k a) = .returned (.int k b):=by rw[h]
theorem ret_bool{a b:Bool}(h:a=b):Ending.returned (.bool a) = .returned (.bool b):=by rw[h]
end Go.Proofs.YtkibdkfdffkkfaaGreatDoor
namespace Go.Proofs.YtkibdkfdffkkfaaGreatDoor.Fou
open Go.RowKit
abbrev dl (s:ByteArray):List UInt8:=s.data.toList
theorem bytes_ext{s t:ByteArray}:s=t↔s.data.toList=t.data.toList:=⟨fun h=>by rw[h],fun h=>by cases s;cases t;simpa using h⟩
theorem str_beq(s t:ByteArray):(s.toList==t.toList)=decide (s=t):=by
 rw[ByteArray.toList_eq,ByteArray.toList_eq]
 by_cases h:s=t
 ·subst h;simp
 ·rw[decide_eq_false h]
  exact beq_eq_false_iff_ne.2 fun e=>h (bytes_ext.2 e)
def bs (l:List UInt8):ByteArray:=⟨l.toArray⟩
theorem bs_data(l:List UInt8):(bs l).data.toList=l:=by simp[bs]
theorem bs_eq{s:ByteArray}{l:List UInt8}(h:s.data.toList=l):s=bs l:=bytes_ext.2 (by rw[h,bs_data])
theorem ext_take(s:ByteArray)(i:Nat):(s.extract 0 i).data.toList=s.data.toList.take i:=by simp[ByteArray.data_extract]
theorem ext_drop(s:ByteArray)(i j:Nat)(h:j=s.size):(s.extract i j).data.toList=s.data.toList.drop i:=by
 subst h
 simp[ByteArray.data_extract]
 exact List.take_of_length_le (by simp)
theorem get_dl{s:ByteArray}{k:Nat}(h:k<s.size):s[k]=(dl s)[k]'(by simpa using h):=by simp[dl];rfl
def LastIs (l:List UInt8) (c:UInt8) (r:Int):Prop:=(r = -1/\c ∉ l)∨∃ a b,l=a++c::b/\c ∉ b/\r=(a.length:Int)
def Last (l:List UInt8) (c:Int) (w:World) (e:Ending) (w':World):Prop:=∃ r,e = .returned (.int .i64 r)/\LastIs l (UInt8.ofNat c.toNat) r/\w=w'
theorem last_none{l:List UInt8}{c:UInt8}(h:c ∉ l.drop 0):LastIs l c (-1):=.inl ⟨rfl,by simpa using h⟩
theorem last_some{l:List UInt8}{c:UInt8}{i:Nat}(hi:i<l.length)(he:l[i]=c)(h:c ∉ l.drop (i+1)):LastIs l c i:=by
 refine .inr ⟨l.take i,l.drop (i+1), ?_,h,by rw[List.length_take];omega⟩
 rw[<-he,<-List.drop_eq_getElem_cons hi,List.take_append_drop]
theorem LastIndexByteString_any(s:ByteArray)(c:Int)(w:World)(hs:s.size<=1000000)(hc0:0<=c)(hc:c<=255) :
  Calls Tryz.prog 208 #[.string s,.int .u8 c] w (Last s.data.toList c w):=by
 go_enter Tryz.func208,Tryz.ntmps208
 go_wp2
 go_loop [5] (fun i => ∃ k:Nat,k<=s.size/\i = .int .i64 ((k:Int)-1)/\UInt8.ofNat c.toNat ∉ s.data.toList.drop k) (fun i=>(intOf i+1).toNat)
 case atStart=>exact⟨s.size,Nat.le_refl _,rfl,by rw[List.drop_of_length_le (by simp)];simp⟩
 case round =>
  obtain⟨k,hk,rfl,hnot⟩:=hrel
  have HN:=Lib.hid hnot
  clear hnot
  cases k with
  | zero =>
   go_wp2
   go_ret
   exact⟨-1,rfl,last_none HN.out,rfl⟩
  | succ k =>
   have hlt:k<s.size:=by omega
   have hkk:(((k+1:Nat):Int)-1)=(k:Int):=by omega
   rw[hkk]
   clear hkk
   by_cases he:(s[k].toNat:Int)=c
   ·have HE:=Lib.hid he
    have hq:((s[k].toNat:Int)==c)=true:=by simpa using he
    clear he
    go_wp2
    go_ret
    refine⟨k,rfl,last_some (by simpa using hlt) ?_ HN.out,rfl⟩
    rw[<-HE.out]
    simp
    rfl
   ·have HE:=Lib.hid he
    have hq:((s[k].toNat:Int)==c)=false:=by simpa using he
    clear he
    go_wp2
    go_round
    case rel =>
     refine⟨k,by omega,by go_num, ?_⟩
     rw[List.drop_eq_getElem_cons (by simpa using hlt),List.mem_cons]
     rintro (h|h)
     ·refine HE.out ?_
      have:=congrArg UInt8.toNat h
      simp at this
      have e3:s.data[k]=s[k]:=rfl
      rw[e3]at this
      omega
     ·exact HN.out h
    case measure=>simp[intOf]
def LastDot (l:List UInt8) (w:World) (e:Ending) (w':World):Prop:=∃ r,e = .returned (.int .i64 r)/\LastIs l 46 r/\w=w'
theorem LastIndex_dot(s:ByteArray)(w:World)(hs:s.size<=1000000) :
  Calls Tryz.prog 160 #[.string s,.string ⟨#[46]⟩] w (LastDot s.data.toList w):=by
 go_enter Tryz.func160,Tryz.ntmps160
 go_wp2_with(first|(go_at_call 208;refine (LastIndexByteString_any _ _ _ hs (by decide) (by decide)).mono ?_;rintro e w' ⟨r,rfl,hr,rfl⟩)|fail)
 go_ret
 exact⟨_,rfl,hr,rfl⟩
def IsBool (q:Bool) (w:World) (e:Ending) (w':World):Prop:=e = .returned (.bool q)/\w=w'
def Trimmed (l:List UInt8) (w:World) (e:Ending) (w':World):Prop:=∃ t:ByteArray,e = .returned (.string t)/\dl t=trm l/\w=w'
theorem last_of{l:List UInt8}(h:l≠[]):(l.getLast? = some 46)↔l.drop (l.length-1)=[46]:=by
 obtain⟨a,b,rfl⟩:∃ a b,l=a++[b]:=⟨l.dropLast,l.getLast h,(List.dropLast_concat_getLast h).symm⟩
 simp
theorem HasSuffix_dot(s:ByteArray)(w:World)(hs:s.size<=1000000) :
  Calls Tryz.prog 256 #[.string s,.string ⟨#[46]⟩] w (IsBool (decide (s.data.toList.getLast? = some 46)) w):=by
 by_cases h0:s.size=0
 ·have he:s.data.toList=[]:=List.eq_nil_of_length_eq_zero (by rw[<-Lib.size_eq];exact h0)
  have hd:decide (s.data.toList.getLast? = some 46)=false:=by rw[he];rfl
  rw[hd]
  have h1:¬ ((1:Int)<=s.size):=by omega
  clear he hd h0
  go_enter Tryz.func256,Tryz.ntmps256
  go_wp2
  go_ret
  exact⟨rfl,rfl⟩
 ·have h1:((1:Int)<=s.size):=by omega
  have hne:s.data.toList≠[]:=fun e=>h0 (by rw[Lib.size_eq,e];rfl)
  have hd:((s.extract (s.size-1) s.size).toList==([46]:List UInt8))=decide (s.data.toList.getLast? = some 46):=by
   rw[show ([46]:List UInt8)=(⟨#[46]⟩:ByteArray).toList by rw[ByteArray.toList_eq],str_beq]
   refine decide_eq_decide.2 ?_
   rw[bytes_ext,ext_drop _ _ _ rfl,last_of hne,<-Lib.size_eq]
  have HD:=Lib.hid hd
  clear hd hne h0
  go_enter Tryz.func256,Tryz.ntmps256
  go_wp2
  go_ret
  refine⟨?_,rfl⟩
  rw[<-HD.out]
  rfl
theorem TrimSuffix_dot(s:ByteArray)(w:World)(hs:s.size<=1000000) :
  Calls Tryz.prog 159 #[.string s,.string ⟨#[46]⟩] w (Trimmed s.data.toList w):=by
 have H:=Lib.hid (HasSuffix_dot s w hs)
 obtain⟨q,hq⟩:∃ q,decide (s.data.toList.getLast? = some 46)=q:=⟨_,rfl⟩
 rw[hq]at H
 have h1:Calls Tryz.prog 207 #[.string s,.string ⟨#[46]⟩] w (Trimmed s.data.toList w):=by
  cases q with
  | true =>
   have hl:=of_decide_eq_true hq
   have hz:((1:Int)<=s.size):=by
    have:s.data.toList≠[]:=fun e=>by rw[e]at hl;cases hl
    have:=List.length_pos_iff.2 this
    rw[<-Lib.size_eq]at this
    omega
   have HL:=Lib.hid hl
   clear hq hl
   go_enter Tryz.func207,Tryz.ntmps207
   go_wp2_with(first|(go_at_call 256;refine H.out.mono ?_;rintro e w' ⟨rfl,rfl⟩)|fail)
   go_ret
   refine⟨_,rfl, ?_,rfl⟩
   rw[dl,ext_take,trm,if_pos HL.out,List.dropLast_eq_take,<-Lib.size_eq]
  | false =>
   have HL:=Lib.hid (of_decide_eq_false hq)
   clear hq
   go_enter Tryz.func207,Tryz.ntmps207
   go_wp2_with(first|(go_at_call 256;refine H.out.mono ?_;rintro e w' ⟨rfl,rfl⟩)|fail)
   go_ret
   exact⟨_,rfl,(trm_no HL.out).symm,rfl⟩
 have H1:=Lib.hid h1
 clear h1 H hq
 go_enter Tryz.func159,Tryz.ntmps159
 go_wp2_with(first|(go_at_call 207;refine H1.out.mono ?_;rintro e w' ⟨t,rfl,ht,rfl⟩)|fail)
 go_ret
 exact⟨_,rfl,ht,rfl⟩
def SplitIs (l:List UInt8) (w:World) (e:Ending) (w':World):Prop:=∃ t:ByteArray,e = .returned (.tuple #[.string t,.int .u64 ((dgs l).2:Int)])/\dl t=(dgs l).1/\t.size<=l.length/\w=w'
theorem dgs_bd(l:List UInt8):(dgs l).2=8∨(dgs l).2=10∨(dgs l).2=16:=by
 unfold dgs
 split
 ·split
  ·split<;>simp
  ·simp
 ·simp
theorem split_mk{l:List UInt8}{t:ByteArray}{b:Int}{w:World}(h:dgs l=(dl t,b.toNat))(hb:0<=b)(hl:(dl t).length<=l.length):SplitIs l w (.returned (.tuple #[.string t,.int .u64 b])) w :=
 ⟨t,by rw[h];simp[Int.toNat_of_nonneg hb],by rw[h],by rw[Lib.size_eq];exact hl,rfl⟩
theorem byte_eq{c:UInt8}{k:Nat}(_:k<256)(h:((c.toNat:Int)==(k:Int))=true):c=UInt8.ofNat k:=by
 have:c.toNat=k:=by have:=eq_of_beq h;omega
 rw[<-this];simp
theorem byte_ne{c:UInt8}{k:Nat}(_:k<256)(h:((c.toNat:Int)==(k:Int))=false):c≠UInt8.ofNat k:=by
 rintro rfl
 simp at h
 omega
theorem split_any(s:ByteArray)(w:World)(hs:s.size<=1000000)(hne:dl s≠[]):Calls Tryz.prog 104 #[.string s] w (SplitIs (dl s) w):=by
 have hp:0<s.size:=by rw[Lib.size_eq];exact List.length_pos_iff.2 hne
 have hz:=Lib.size_eq s
 by_cases h1:s.size=1
 ·have hone:((s.size:Int)==1)=true:=by rw[h1];rfl
  have hd:Hid (dgs (dl s)=(dl s,10)):=by
   obtain⟨x,hx⟩:=List.length_eq_one_iff.1 (hz.symm.trans h1)
   exact Lib.hid (by rw[dl,hx];rfl)
  clear h1 hz hne
  go_enter Tryz.func104,Tryz.ntmps104
  go_wp2
  go_ret2
  exact split_mk hd.out (by decide) (Nat.le_refl _)
 ·have hp1:1<s.size:=by omega
  have hone:((s.size:Int)==1)=false:=by simp;omega
  obtain⟨a,b,t,hx⟩:∃ a b t,dl s=a::b::t:=by
   cases h:dl s with
   | nil=>exact absurd h hne
   | cons a r =>
    cases r with
    | nil=>exact absurd (show s.size=1 by rw[hz];exact congrArg List.length h) h1
    | cons b t=>exact⟨a,b,t,rfl⟩
  have g0:s[0]=a:=by rw[get_dl hp];simp[hx]
  have g1:s[1]=b:=by rw[get_dl hp1];simp[hx]
  have HX:=Lib.hid hx
  have HZ:Hid (s.data.toList.length=s.size):=Lib.hid hz.symm
  clear h1 hz hne hx
  cases ha:((s[0].toNat:Int)==48) with
  | false =>
   have h0:((s[0].toNat:Int) != 48)=true:=by rw[bne,ha];rfl
   have hd:Hid (dgs (dl s)=(dl s,10)):=Lib.hid (by rw[HX.out,dgs,if_neg (by rw[<-g0];exact byte_ne (k:=48) (by decide) ha)])
   clear ha g0 g1
   go_enter Tryz.func104,Tryz.ntmps104
   go_wp2
   go_ret2
   exact split_mk hd.out (by decide) (Nat.le_refl _)
  | true =>
   have h0:((s[0].toNat:Int) != 48)=false:=by rw[bne,ha];rfl
   have e48:a=48:=by rw[<-g0];exact byte_eq (k:=48) (by decide) ha
   cases hb:((s[1].toNat:Int)==120) with
   | true =>
    have e120:b=120:=by rw[<-g1];exact byte_eq (k:=120) (by decide) hb
    have hd:Hid (dgs (dl s)=(dl (s.extract 2 s.size),16)):=Lib.hid (by rw[show dl (s.extract 2 s.size)=(dl s).drop 2 from ext_drop _ _ _ rfl,HX.out,dgs,if_pos e48,if_pos (.inl e120)];rfl)
    have hq:(2:Int)<=s.size:=by omega
    clear ha g0 g1 e48 e120
    go_enter Tryz.func104,Tryz.ntmps104
    go_wp2
    go_ret2
    exact split_mk hd.out (by decide) (by rw[dl,ext_drop _ _ _ rfl];simp)
   | false =>
    have n120:¬ b=120:=by rw[<-g1];exact byte_ne (k:=120) (by decide) hb
    cases hc:((s[1].toNat:Int)==88) with
    | true =>
     have e88:b=88:=by rw[<-g1];exact byte_eq (k:=88) (by decide) hc
     have hd:Hid (dgs (dl s)=(dl (s.extract 2 s.size),16)):=Lib.hid (by rw[show dl (s.extract 2 s.size)=(dl s).drop 2 from ext_drop _ _ _ rfl,HX.out,dgs,if_pos e48,if_pos (.inr e88)];rfl)
     have hq:(2:Int)<=s.size:=by omega
     clear ha g0 g1 e48 e88 n120
     go_enter Tryz.func104,Tryz.ntmps104
     go_wp2
     go_ret2
     exact split_mk hd.out (by decide) (by rw[dl,ext_drop _ _ _ rfl];simp)
    | false =>
     have n88:¬ b=88:=by rw[<-g1];exact byte_ne (k:=88) (by decide) hc
     have hd:Hid (dgs (dl s)=(dl (s.extract 1 s.size),8)):=Lib.hid (by rw[show dl (s.extract 1 s.size)=(dl s).drop 1 from ext_drop _ _ _ rfl,HX.out,dgs,if_pos e48,if_neg (by rintro (h|h);exact n120 h;exact n88 h)];rfl)
     have hq:(1:Int)<=s.size:=by omega
     clear ha g0 g1 e48 n88 n120
     go_enter Tryz.func104,Tryz.ntmps104
     go_wp2
     go_ret2
     exact split_mk hd.out (by decide) (by rw[dl,ext_drop _ _ _ rfl];simp)
def DigOf (b:Nat) (w:World) (e:Ending) (w':World):Prop:=e = .returned (.func (.func 161) #[] #[.pointer (some ⟨w.heap.size,0,none⟩)])/\w'=w.alloc (.cells #[.int .u64 (b:Int)] 72)
theorem digitOf_any(b:Nat)(w:World):Calls Tryz.prog 103 #[.int .u64 (b:Int)] w (DigOf b w):=by
 go_enter Tryz.func103,Tryz.ntmps103
 go_wp2
 go_ret
 exact⟨rfl,rfl⟩
def DigR (b v:Nat) (w:World) (e:Ending) (w':World):Prop:=(∃ d:Int,(0<=d/\d<256)/\e = .returned (.tuple #[.int .u64 d,.bool (decide (v<b))])/\(v<b->d=v))/\Below w.heap.size w w'
def Dig (b:Nat) (c:UInt8) (w:World) (e:Ending) (w':World):Prop:=DigR b (dv c) w e w'
theorem dig_mk{b v:Nat}{d:Int}{w w':World}(h:(0<=d/\d<256)/\(v<b↔d<(b:Int))/\(v<b->d=v))(hB:Below w.heap.size w w'):DigR b v w (.returned (.tuple #[.int .u64 d,.bool (decide (d<(b:Int)))])) w' :=
 ⟨⟨d,h.1,by rw[decide_eq_decide.2 h.2.1],h.2.2⟩,hB⟩
theorem dig_no{b v:Nat}{d:Int}{w w':World}(h:(0<=d/\d<256)/\¬ v<b)(hB:Below w.heap.size w w'):DigR b v w (.returned (.tuple #[.int .u64 d,.bool false])) w' :=
 ⟨⟨d,h.1,by rw[decide_eq_false h.2],fun e=>absurd e h.2⟩,hB⟩
theorem below_drewN(w:World)(n:Nat):Below w.heap.size w (w.drewN n):=⟨rfl,rfl,rfl,Nat.le_refl _,fun _ _=>rfl⟩
theorem digit_v{z v:Nat}(h:v=if 48<=z/\z<=57 then z-48 else if 97<=z/\z<=102 then z-87 else if 65<=z/\z<=70 then z-55 else 99) :
  (48<=z/\z<=57->v=z-48)/\(97<=z/\z<=102->v=z-87)/\(65<=z/\z<=70->v=z-55)/\(¬ (48<=z/\z<=57)->¬ (97<=z/\z<=102)->¬ (65<=z/\z<=70)->v=99):=by
 subst h
 split
 ·omega
 ·split
  ·omega
  ·split<;>omega
theorem digit_any(b:Nat)(hb:b<=16)(c:UInt8)(B:Nat)(w:World)(hc:w.cell? ⟨B,0,none⟩=some (.int .u64 (b:Int))) :
  Calls Tryz.prog 161 #[.int .u8 (c.toNat:Int),.pointer (some ⟨B,0,none⟩)] w (Dig b c w):=by
 have hc8:c.toNat<256:=c.toNat_lt
 have hdv:=digit_v (z:=c.toNat) (v:=dv c) rfl
 unfold Dig
 generalize dv c=v at hdv
 generalize c.toNat=z at hc8 hdv
 have HV:=Lib.hid hdv
 clear hdv
 go_enter Tryz.func161,Tryz.ntmps161
 go_wp2
 all_goals
  go_quiet (fail)
  go_wp2
  go_ret2
  obtain⟨hv1,hv2,hv3,hv4⟩:=HV.out
  first
  | exact dig_mk (by omega) (below_drewN _ _)
  | exact dig_no (by omega) (below_drewN _ _)
end Go.Proofs.YtkibdkfdffkkfaaGreatDoor.Fou
