import Derived.Lib.Strings
import Derived.Lib.Join
import Derived.Lib.Case
import Derived.Lib.IndexMore
set_option maxRecDepth 100000
set_option maxHeartbeats 8000000
namespace Go.Proofs.YtkibdkfdffkkfaaGreatDoor.Sx
def dv (c:UInt8):Nat:=if 48<=c.toNat/\c.toNat<=57 then c.toNat-48 else if 97<=c.toNat/\c.toNat<=102 then c.toNat-87 else if 65<=c.toNat/\c.toNat<=70 then c.toNat-55 else 99
def vgo (b:Nat):Nat->List UInt8->Option Nat
 | n,[]=>some n
 | n,c::t=>if dv c<b then vgo b (n*b+dv c) t else none
theorem vgo_lt(b:Nat):∀ (l:List UInt8) (n m:Nat),vgo b n l=some m->m<(n+1)*b ^ l.length
 | [],n,m,h=>by simp only[vgo,Option.some.injEq]at h;subst h;simp
 | x :: t, n, m, h => by
  rw[vgo]at h
  split at h
  ·rename_i hx
   have:=vgo_lt b t _ _ h
   rw[List.length_cons,Nat.pow_succ,Nat.mul_comm (b ^ t.length) b,<-Nat.mul_assoc]
   refine Nat.lt_of_lt_of_le this (Nat.mul_le_mul_right _ ?_)
   rw[Nat.add_mul,Nat.one_mul]
   omega
  ·cases h
theorem vgo_mem(b:Nat):∀ (l:List UInt8) (n m:Nat),vgo b n l=some m->∀ c∈l,dv c<b
 | x :: t, n, m, h, c, hc => by
  rw[vgo]at h
  split at h
  ·rename_i hx
   rcases List.mem_cons.1 hc with h1|h1
   ·subst h1;exact hx
   ·exact vgo_mem b t _ _ h c h1
  ·cases h
def pce (p:List UInt8):Option Nat:=if p=[]∨4<p.length then none else vgo 16 0 p
theorem pce_lt{p:List UInt8}{n:Nat}(h:pce p=some n):n<65536:=by
 unfold pce at h
 split at h
 ·cases h
 ·rename_i hp
  have:=vgo_lt 16 p 0 n h
  have h4:16 ^ p.length<=16 ^ 4:=Nat.pow_le_pow_right (by decide) (by omega)
  rw[Nat.zero_add,Nat.one_mul]at this
  exact Nat.lt_of_lt_of_le this h4
theorem pce_mem{p:List UInt8}{n:Nat}(h:pce p=some n):p≠[]/\p.length<=4/\∀ c∈p,dv c<16:=by
 unfold pce at h
 split at h
 ·cases h
 ·rename_i hp
  exact⟨fun e=>hp (.inl e),by omega,vgo_mem 16 p 0 n h⟩
def dec (p:List UInt8):Option Nat:=if p=[]∨(1<p.length/\p.head? = some 48) then none else match vgo 10 0 p with
 | some n=>if n<256 then some n else none
 | none=>none
theorem dec_some{p:List UInt8}{n:Nat}(h:dec p=some n):p≠[]/\vgo 10 0 p=some n/\n<256/\∀ c∈p,dv c<10:=by
 unfold dec at h
 split at h
 ·cases h
 ·rename_i hp
  split at h
  ·rename_i m hm
   split at h
   ·obtain rfl:=Option.some.inj h
    exact⟨fun e=>hp (.inl e),hm,‹_›,vgo_mem 10 p 0 _ hm⟩
   ·cases h
  ·cases h
def cutg (sep:List UInt8):List UInt8->Option (List UInt8 × List UInt8)
 | []=>none
 | c::t=>if sep.isPrefixOf (c::t) then some ([],(c::t).drop sep.length) else (cutg sep t).map fun p=>(c::p.1,p.2)
theorem cutg_app{sep:List UInt8}:∀ {l:List UInt8} {p:List UInt8 × List UInt8},cutg sep l=some p->l=p.1++sep++p.2
 | c :: t, p, h => by
  rw[cutg]at h
  split at h
  ·rename_i hp
   obtain rfl:=Option.some.inj h
   obtain⟨r,hr⟩:=List.isPrefixOf_iff_prefix.1 hp
   rw[<-hr]
   simp
  ·obtain⟨q,hq,rfl⟩:=Option.map_eq_some_iff.1 h
   have:=cutg_app hq
   rw[this]
   simp
theorem index_eq{sep:List UInt8}(hs:sep≠[]):∀ l:List UInt8,Lib.index l sep=match cutg sep l with|some p=>(p.1.length:Int)|none => -1
 | [] => by
  cases sep with
  | nil=>exact absurd rfl hs
  | cons a b=>rfl
 | c :: t => by
  rw[Lib.index,cutg]
  split
  ·rfl
  ·rw[index_eq hs t]
   cases cutg sep t with
   | none=>rfl
   | some q =>
    simp only[Option.map_some]
    have:((q.1.length:Int) == -1)=false:=by rw[beq_eq_false_iff_ne];omega
    rw[this]
    simp
theorem cut_eq{sep:List UInt8}(hs:sep≠[])(l:List UInt8):Lib.cut l sep=match cutg sep l with|some p=>(p.1,p.2,true)|none=>(l,[],false):=by
 unfold Lib.cut
 rw[index_eq hs]
 cases h:cutg sep l with
 | none=>rfl
 | some p =>
  simp only
  rw[if_pos (by omega),Int.toNat_natCast]
  have:=cutg_app h
  rw[this]
  simp
theorem contains_eq{sep:List UInt8}(hs:sep≠[])(l:List UInt8):Lib.contains l sep=(cutg sep l).isSome:=by
 unfold Lib.contains
 rw[index_eq hs]
 cases h:cutg sep l with
 | none=>rfl
 | some p=>simp only[Option.isSome_some];rw[decide_eq_true];omega
theorem pre1(c x:UInt8)(t:List UInt8):[c].isPrefixOf (x::t)=(c==x):=by simp[List.isPrefixOf]
theorem cut1_app{c:UInt8}(b:List UInt8):∀ {a:List UInt8},c ∉ a->cutg [c] (a++c::b)=some (a,b)
 | [],_=>by rw[List.nil_append,cutg,pre1,if_pos (by simp)];rfl
 | x :: t, h => by
  rw[List.cons_append,cutg,pre1,if_neg (by simp;exact fun e=>h (by rw[e];exact List.mem_cons_self ..)),cut1_app b (fun e=>h (List.mem_cons_of_mem _ e))]
  rfl
theorem cut1_some{c:UInt8}:∀ {l:List UInt8} {p:List UInt8 × List UInt8},cutg [c] l=some p->l=p.1++c::p.2/\c ∉ p.1
 | x :: t, p, h => by
  rw[cutg,pre1]at h
  split at h
  ·rename_i e
   obtain rfl:=Option.some.inj h
   have:=eq_of_beq e
   subst this
   exact⟨rfl,by simp⟩
  ·rename_i e
   obtain⟨q,hq,rfl⟩:=Option.map_eq_some_iff.1 h
   obtain⟨h1,h2⟩:=cut1_some hq
   refine⟨by rw[h1];rfl, ?_⟩
   simp only[List.mem_cons,not_or]
   exact⟨fun e'=>e (by simp[e']),h2⟩
theorem first_of{c:UInt8}:∀ {l:List UInt8},c∈l->∃ a b,l=a++c::b/\c ∉ a
 | x :: t, hc => by
  by_cases e:x=c
  ·subst e;exact⟨[],t,rfl,by simp⟩
  ·obtain⟨a,b,e1,e2⟩:=first_of (l:=t) (by rcases List.mem_cons.1 hc with h|h;exact absurd h.symm e;exact h)
   exact⟨x::a,b,by rw[e1];rfl,by simp only[List.mem_cons,not_or];exact⟨fun h=>e h.symm,e2⟩⟩
theorem cut1_mem{c:UInt8}{l:List UInt8}(h:cutg [c] l=none):c ∉ l:=fun hc=>by
 obtain⟨a,b,rfl,hn⟩:=first_of hc
 rw[cut1_app b hn]at h
 cases h
def spl:List UInt8->List (List UInt8)
 | []=>[[]]
 | c :: t => if c = 58 then [] :: spl t else match spl t with
  | []=>[[c]]
  | p::r=>(c::p)::r
theorem spl_ne(l:List UInt8):spl l≠[]:=by
 cases l with
 | nil=>simp[spl]
 | cons c t =>
  rw[spl]
  split
  ·simp
  ·split<;>simp
theorem spl_one:∀ a:List UInt8,(58:UInt8) ∉ a->spl a=[a]
 | [],_=>rfl
 | c :: t, h => by
  rw[spl,if_neg (fun e=>h (by rw[e];exact List.mem_cons_self ..)),spl_one t (fun e=>h (List.mem_cons_of_mem _ e))]
theorem spl_app(b:List UInt8):∀ a:List UInt8,(58:UInt8) ∉ a->spl (a++58::b)=a::spl b
 | [],_=>by rw[List.nil_append,spl,if_pos rfl]
 | c :: t, h => by
  rw[List.cons_append,spl,if_neg (fun e=>h (by rw[e];exact List.mem_cons_self ..)),spl_app b t (fun e=>h (List.mem_cons_of_mem _ e))]
abbrev jn (ps:List (List UInt8)):List UInt8:=Lib.join ps [58]
def gd (ps:List (List UInt8)):Prop:=∀ p∈ps,p≠[]/\(58:UInt8) ∉ p
theorem gd.take{a:List (List UInt8)}(h:gd a)(k:Nat):gd (a.take k):=fun x hx=>h x (List.mem_of_mem_take hx)
theorem gd.drop{a:List (List UInt8)}(h:gd a)(k:Nat):gd (a.drop k):=fun x hx=>h x (List.mem_of_mem_drop hx)
def four (p:List UInt8):Option (List Nat):=(cutg [46] p).bind fun q=>(cutg [46] q.2).bind fun r=>(cutg [46] r.2).bind fun s =>
 (dec q.1).bind fun a=>(dec r.1).bind fun b=>(dec s.1).bind fun c=>(dec s.2).bind fun d=>some [a*256+b,c*256+d]
def rd (emb:Bool):List (List UInt8)->Option (List Nat)
 | []=>some []
 | [p]=>if emb=true/\(46:UInt8)∈p then four p else (pce p).map fun a=>[a]
 | p::q::r=>(pce p).bind fun a=>(rd emb (q::r)).map fun l=>a::l
def prt (l:List UInt8):List (List UInt8):=if l=[] then [] else spl l
def rdt (emb:Bool) (l:List UInt8):Option (List Nat):=match rd emb (prt l) with
 | some x=>if x.length<=8 then some x else none
 | none=>none
def prs (l:List UInt8):Option (List Nat):=match cutg [58,58] l with
 | none => match rdt true l with
  | some x=>if x.length=8 then some x else none
  | none=>none
 | some p => match rdt false p.1, rdt true p.2 with
  | some x,some y=>if x.length+y.length<8 then some (x++List.replicate (8-x.length-y.length) 0++y) else none
  | _,_=>none
theorem four_some{p:List UInt8}{x:List Nat}(h:four p=some x):∃ a b c d:Nat,(a<256/\b<256)/\(c<256/\d<256)/\x=[a*256+b,c*256+d]/\p≠[]/\∀ k∈p,dv k<16∨k=46:=by
 obtain⟨q,hq,h⟩:=Option.bind_eq_some_iff.1 h
 obtain⟨r,hr,h⟩:=Option.bind_eq_some_iff.1 h
 obtain⟨s,hs,h⟩:=Option.bind_eq_some_iff.1 h
 obtain⟨a,ha,h⟩:=Option.bind_eq_some_iff.1 h
 obtain⟨b,hb,h⟩:=Option.bind_eq_some_iff.1 h
 obtain⟨c,hc,h⟩:=Option.bind_eq_some_iff.1 h
 obtain⟨d,hd,h⟩:=Option.bind_eq_some_iff.1 h
 have e1:=(cut1_some hq).1
 have e2:=(cut1_some hr).1
 have e3:=(cut1_some hs).1
 have da:=dec_some ha
 have db:=dec_some hb
 have dc:=dec_some hc
 have dd:=dec_some hd
 refine⟨a,b,c,d,⟨da.2.2.1,db.2.2.1⟩,⟨dc.2.2.1,dd.2.2.1⟩,(Option.some.inj h).symm,by rw[e1];simp,fun k hk => ?_⟩
 rw[e1,e2,e3]at hk
 simp only[List.mem_append,List.mem_cons]at hk
 rcases hk with h|h|h|h|h|h|h
 ·exact .inl (Nat.lt_trans (da.2.2.2 k h) (by decide))
 ·exact .inr h
 ·exact .inl (Nat.lt_trans (db.2.2.2 k h) (by decide))
 ·exact .inr h
 ·exact .inl (Nat.lt_trans (dc.2.2.2 k h) (by decide))
 ·exact .inr h
 ·exact .inl (Nat.lt_trans (dd.2.2.2 k h) (by decide))
theorem rd_some(emb:Bool):∀ {ps:List (List UInt8)} {x:List Nat},rd emb ps=some x->(∀ n∈x,n<65536)/\∀ p∈ps,p≠[]/\∀ c∈p,dv c<16∨c=46
 | [], x, h => by
  obtain rfl:=Option.some.inj h
  exact⟨fun n hn=>by simp at hn,fun p hp=>by simp at hp⟩
 | [p], x, h => by
  rw[rd]at h
  split at h
  ·obtain⟨a,b,c,d,⟨h1,h2⟩,⟨h3,h4⟩,rfl,hp,hk⟩:=four_some h
   refine⟨fun n hn => ?_,fun q hq => ?_⟩
   ·simp at hn
    omega
   ·simp at hq
    subst hq
    exact⟨hp,hk⟩
  ·obtain⟨a,ha,rfl⟩:=Option.map_eq_some_iff.1 h
   refine⟨fun n hn => ?_,fun q hq => ?_⟩
   ·simp at hn
    subst hn
    exact pce_lt ha
   ·simp at hq
    subst hq
    exact⟨(pce_mem ha).1,fun c hc => .inl ((pce_mem ha).2.2 c hc)⟩
 | p :: q :: r, x, h => by
  rw[rd]at h
  obtain⟨a,ha,h⟩:=Option.bind_eq_some_iff.1 h
  obtain⟨l,hl,rfl⟩:=Option.map_eq_some_iff.1 h
  obtain⟨h1,h2⟩:=rd_some emb hl
  refine⟨fun n hn => ?_,fun s hs => ?_⟩
  ·rcases List.mem_cons.1 hn with e|e
   ·subst e;exact pce_lt ha
   ·exact h1 n e
  ·rcases List.mem_cons.1 hs with e|e
   ·subst e;exact⟨(pce_mem ha).1,fun c hc => .inl ((pce_mem ha).2.2 c hc)⟩
   ·exact h2 s e
theorem rdt_some{emb:Bool}{l:List UInt8}{x:List Nat}(h:rdt emb l=some x):rd emb (prt l)=some x/\x.length<=8:=by
 unfold rdt at h
 split at h
 ·split at h
  ·rename_i y hy hl
   obtain rfl:=Option.some.inj h
   exact⟨hy,hl⟩
  ·cases h
 ·cases h
theorem prs_some{l:List UInt8}{x:List Nat}(h:prs l=some x):x.length=8/\∀ n∈x,n<65536:=by
 unfold prs at h
 split at h
 ·split at h
  ·split at h
   ·rename_i y hy hl
    obtain rfl:=Option.some.inj h
    exact⟨hl,(rd_some _ (rdt_some hy).1).1⟩
   ·cases h
  ·cases h
 ·split at h
  ·split at h
   ·rename_i y z hy hz hl
    obtain rfl:=Option.some.inj h
    refine⟨by simp;omega,fun n hn => ?_⟩
    rcases List.mem_append.1 hn with hn|hn
    ·rcases List.mem_append.1 hn with hn|hn
     ·exact (rd_some _ (rdt_some hy).1).1 n hn
     ·have:=(List.mem_replicate.1 hn).2
      omega
    ·exact (rd_some _ (rdt_some hz).1).1 n hn
   ·cases h
  ·cases h
end Go.Proofs.YtkibdkfdffkkfaaGreatDoor.Sx
