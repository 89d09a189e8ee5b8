set_option maxRecDepth 100000
set_option maxHeartbeats 8000000
namespace Go.Proofs.YtkibdkfdffkkfaaGreatDoor.Utf
def sca (r:Int):Bool:=decide (0<=r/\r<=1114111/\(r<55296∨57343<r))
def fixR (r:Int):Int:=if sca r=true then r else 65533
def b1 (r:Int):List Int :=
 if r<=127 then [r]
 else if r<=2047 then [192+r/64,128+r%64]
 else if r<=65535 then [224+r/4096,128+r/64%64,128+r%64]
 else [240+r/262144,128+r/4096%64,128+r/64%64,128+r%64]
def encOne (r:Int):List Int:=b1 (fixR r)
def enc (l:List Int):List Int:=l.flatMap encOne
theorem sca_iff(r:Int):sca r=true↔0<=r/\r<=1114111/\(r<55296∨57343<r):=by simp[sca]
theorem sca_fix(r:Int):sca (fixR r)=true:=by
 unfold fixR
 split
 ·assumption
 ·decide
theorem fix_of_sca{r:Int}(h:sca r=true):fixR r=r:=by simp[fixR,h]
theorem fix_range(r:Int):0<=fixR r/\fixR r<=1114111:=by
 have h:=(sca_iff _).1 (sca_fix r)
 omega
theorem b1_len(r:Int):1<=(b1 r).length/\(b1 r).length<=4:=by
 unfold b1
 repeat' split
 all_goals simp
theorem encOne_len(r:Int):1<=(encOne r).length/\(encOne r).length<=4:=b1_len _
theorem enc_append(a b:List Int):enc (a++b)=enc a++enc b:=by simp[enc]
theorem enc_one(r:Int):enc [r]=encOne r:=by simp[enc]
theorem enc_cons(r:Int)(l:List Int):enc (r::l)=encOne r++enc l:=by simp[enc]
theorem enc_len_le:∀ l:List Int,(enc l).length<=4*l.length
 | []=>by simp[enc]
 | r :: l => by
  have h:=encOne_len r
  have ih:=enc_len_le l
  rw[enc_cons,List.length_append,List.length_cons]
  omega
theorem enc_take_succ(l:List Int)(k:Nat)(h:k<l.length):enc (l.take (k+1))=enc (l.take k)++encOne l[k]:=by
 rw[List.take_succ_eq_append_getElem h,enc_append,enc_one]
theorem enc_take_le(l:List Int)(k:Nat):(enc (l.take k)).length<=4*k:=by
 have h:=enc_len_le (l.take k)
 have:(l.take k).length<=k:=List.length_take_le _ _
 omega
def loB (c:Int):Int:=if c=224 then 160 else if c=240 then 144 else 128
def hiB (c:Int):Int:=if c=237 then 159 else if c=244 then 143 else 191
def lead (c:Int):Int × Int × Int × Int :=
 if c<=127 then (1,c,0,0)
 else if c<194∨244<c then (0,0,0,0)
 else if c<=223 then (2,c%32,128,191)
 else if c<=239 then (3,c%16,loB c,hiB c)
 else (4,c%8,loB c,hiB c)
def go (bs:List Int) (size:Nat):Nat->Nat->Int->Int->Int->Int × Nat × Bool
 | 0,_,r,_,_=>(r,size,true)
 | f + 1, i, r, low, high =>
  match bs[i]? with
  | none=>(65533,i,false)
  | some b=>if b<low∨high<b then (65533,i,false) else go bs size f (i+1) (r*64+b%64) 128 191
def firstC (bs:List Int):Int × Nat × Bool :=
 match bs with
 | []=>(65533,0,false)
 | c::_=>if (lead c).1=0 then (65533,1,false) else go bs (lead c).1.toNat ((lead c).1.toNat-1) 1 (lead c).2.1 (lead c).2.2.1 (lead c).2.2.2
abbrev Cd:=Int × Nat × Nat × Bool
def codesF:Nat->Nat->List Int->List Cd
 | 0,_,_=>[]
 | f+1,p,bs=>if bs=[] then [] else ((firstC bs).1,p,p+(firstC bs).2.1,(firstC bs).2.2)::codesF f (p+(firstC bs).2.1) (bs.drop (firstC bs).2.1)
def codes (bs:List Int):List Cd:=codesF bs.length 0 bs
def dec (bs:List Int):List Int:=(codes bs).map (·.1)
def Byt (bs:List Int):Prop:=∀ x∈bs,0<=x/\x<=255
theorem lead1{c:Int}(h:c<=127):lead c=(1,c,0,0):=by simp[lead,h]
theorem lead0{c:Int}(h:127<c)(h':c<194∨244<c):lead c=(0,0,0,0):=by
 unfold lead
 rw[if_neg (by omega),if_pos h']
theorem lead2{c:Int}(h:194<=c)(h':c<=223):lead c=(2,c%32,128,191):=by
 unfold lead
 rw[if_neg (by omega),if_neg (by omega),if_pos h']
theorem lead3{c:Int}(h:224<=c)(h':c<=239):lead c=(3,c%16,loB c,hiB c):=by
 unfold lead
 rw[if_neg (by omega),if_neg (by omega),if_neg (by omega),if_pos h']
theorem lead4{c:Int}(h:240<=c)(h':c<=244):lead c=(4,c%8,loB c,hiB c):=by
 unfold lead
 rw[if_neg (by omega),if_neg (by omega),if_neg (by omega),if_neg (by omega)]
theorem lead_size(c:Int):0<=(lead c).1/\(lead c).1<=4:=by
 unfold lead
 repeat' split
 all_goals simp
theorem go_len(bs:List Int)(size:Nat):∀ (f i:Nat) (r low high:Int),i+f=size->1<=i->i<=bs.length ->
  1<=(go bs size f i r low high).2.1/\(go bs size f i r low high).2.1<=size/\(go bs size f i r low high).2.1<=bs.length
 | 0,i,r,low,high,h,h1,h2=>by simp only[go];omega
 | f + 1, i, r, low, high, h, h1, h2 => by
  unfold go
  split
  ·simp only;omega
  ·rename_i b hb
   have hlt:i<bs.length:=(List.getElem?_eq_some_iff.1 hb).1
   split
   ·simp only;omega
   ·exact go_len bs size f (i+1) _ _ _ (by omega) (by omega) (by omega)
theorem first_len{bs:List Int}(h:bs≠[]):1<=(firstC bs).2.1/\(firstC bs).2.1<=4/\(firstC bs).2.1<=bs.length:=by
 cases bs with
 | nil=>exact absurd rfl h
 | cons c t =>
  simp only[firstC]
  have hl:=lead_size c
  split
  ·simp
  ·have:=go_len (c::t) (lead c).1.toNat ((lead c).1.toNat-1) 1 (lead c).2.1 (lead c).2.2.1 (lead c).2.2.2 (by omega) (by omega) (by simp)
   omega
theorem codesF_fuel:∀ (f g p:Nat) (bs:List Int),bs.length<=f->bs.length<=g->codesF f p bs=codesF g p bs
 | 0,0,_,_,_,_=>rfl
 | 0, g + 1, p, bs, h, _ => by
  have:bs=[]:=List.eq_nil_of_length_eq_zero (by omega)
  simp[codesF,this]
 | f + 1, 0, p, bs, _, h => by
  have:bs=[]:=List.eq_nil_of_length_eq_zero (by omega)
  simp[codesF,this]
 | f + 1, g + 1, p, bs, h, h' => by
  unfold codesF
  by_cases e:bs=[]
  ·simp[e]
  ·rw[if_neg e,if_neg e]
   have hl:=first_len e
   rw[codesF_fuel f g _ _ (by rw[List.length_drop];omega) (by rw[List.length_drop];omega)]
def codesAt (bs:List Int) (k:Nat):List Cd:=codesF (bs.length-k) k (bs.drop k)
theorem codes_eq(bs:List Int):codes bs=codesAt bs 0:=by simp[codes,codesAt]
theorem codesAt_end(bs:List Int){k:Nat}(h:bs.length<=k):codesAt bs k=[]:=by
 unfold codesAt
 rw[show bs.length-k=0 from by omega]
 rfl
theorem codesAt_step(bs:List Int){k:Nat}(h:k<bs.length) :
  codesAt bs k=((firstC (bs.drop k)).1,k,k+(firstC (bs.drop k)).2.1,(firstC (bs.drop k)).2.2)::codesAt bs (k+(firstC (bs.drop k)).2.1):=by
 unfold codesAt
 have hne:bs.drop k≠[]:=by
  intro e
  have:=congrArg List.length e
  rw[List.length_drop,List.length_nil]at this
  omega
 have hl:=first_len hne
 rw[List.length_drop]at hl
 rw[show bs.length-k=(bs.length-k-1)+1 from by omega]
 conv=>lhs;unfold codesF
 rw[if_neg hne,List.drop_drop,codesF_fuel _ (bs.length-(k+(firstC (bs.drop k)).2.1)) _ _ (by rw[List.length_drop];omega) (by rw[List.length_drop];omega)]
theorem codesAt_len(bs:List Int):∀ (d k:Nat),bs.length-k<=d->(codesAt bs k).length<=bs.length-k
 | 0,k,h=>by rw[codesAt_end bs (by omega)];simp
 | d + 1, k, h => by
  by_cases hk:k<bs.length
  ·have hne:bs.drop k≠[]:=by
    intro e
    have:=congrArg List.length e
    rw[List.length_drop,List.length_nil]at this
    omega
   have hl:=first_len hne
   rw[List.length_drop]at hl
   have ih:=codesAt_len bs d (k+(firstC (bs.drop k)).2.1) (by omega)
   rw[codesAt_step bs hk,List.length_cons]
   omega
  ·rw[codesAt_end bs (by omega)];simp
theorem codes_len(bs:List Int):(codes bs).length<=bs.length:=by
 rw[codes_eq]
 have:=codesAt_len bs bs.length 0 (by omega)
 omega
theorem drop_ne{bs:List Int}{k:Nat}(h:k<bs.length):bs.drop k≠[]:=by
 intro e
 have:=congrArg List.length e
 rw[List.length_drop,List.length_nil]at this
 omega
theorem Byt.drop{bs:List Int}(h:Byt bs)(k:Nat):Byt (bs.drop k):=fun x hx=>h x (List.mem_of_mem_drop hx)
theorem pre_lt{bs:List Int}{pre:List Cd}{k:Nat}(h:codes bs=pre++codesAt bs k)(hk:k<bs.length):pre.length<bs.length:=by
 have h1:=codes_len bs
 rw[h,codesAt_step bs hk,List.length_append,List.length_cons]at h1
 omega
end Go.Proofs.YtkibdkfdffkkfaaGreatDoor.Utf
