import Derived.Lib.Strings
import Derived.Lib.ItoaNum
import Derived.Lib.Join
import Derived.Lib.Case
import Derived.Lib.SlTrimSet
set_option maxRecDepth 100000
set_option maxHeartbeats 8000000
namespace Go.Proofs.YtkibdkfdffkkfaaGreatDoor.Fou
def dv (c:UInt8):Nat:=if 48<=c.toNat/\c.toNat<=57 then c.toNat-48 else if 97<=c.toNat/\c.toNat<=102 then c.toNat-87 else if 65<=c.toNat/\c.toNat<=70 then c.toNat-55 else 99
def cap (n:Nat):Nat:=min n 4294967296
theorem cap_le(n:Nat):cap n<=4294967296:=Nat.min_le_right _ _
def vgo (b:Nat):Nat->List UInt8->Option Nat
 | n,[]=>some n
 | n,c::t=>if dv c<b then vgo b (cap (n*b+dv c)) t else none
def val (b:Nat) (l:List UInt8):Option Nat:=vgo b 0 l
theorem vgo_snoc(b:Nat)(c:UInt8):∀ (l:List UInt8) (n:Nat),vgo b n (l++[c])=match vgo b n l with|none=>none|some m=>if dv c<b then some (cap (m*b+dv c)) else none
 | [],n=>by simp only[List.nil_append,vgo]
 | x :: t, n => by
  rw[List.cons_append,vgo,vgo]
  split
  ·exact vgo_snoc b c t _
  ·rfl
theorem vgo_app(b:Nat)(k:List UInt8):∀ (l:List UInt8) (n:Nat),vgo b n (l++k)=match vgo b n l with|none=>none|some m=>vgo b m k
 | [],n=>by simp only[List.nil_append,vgo]
 | x :: t, n => by
  rw[List.cons_append,vgo,vgo]
  split
  ·exact vgo_app b k t _
  ·rfl
theorem vgo_le(b:Nat):∀ (l:List UInt8) (n m:Nat),n<=4294967296->vgo b n l=some m->m<=4294967296
 | [],n,m,h,e=>by simp only[vgo,Option.some.injEq]at e;omega
 | x :: t, n, m, h, e => by
  rw[vgo]at e
  split at e
  ·exact vgo_le b t _ m (cap_le _) e
  ·cases e
theorem val_le{b:Nat}{l:List UInt8}{m:Nat}(h:val b l=some m):m<=4294967296:=vgo_le b l 0 m (by decide) h
def dgs:List UInt8->List UInt8 × Nat
 | a::b::t=>if a=48 then (if b=120∨b=88 then (t,16) else (b::t,8)) else (a::b::t,10)
 | l=>(l,10)
def num (l:List UInt8):Option Nat:=if l=[] then none else val (dgs l).2 (dgs l).1
theorem num_le{l:List UInt8}{m:Nat}(h:num l=some m):m<=4294967296:=by
 unfold num at h
 split at h
 ·cases h
 ·exact val_le h
def spl:List UInt8->List (List UInt8)
 | []=>[[]]
 | c :: t => if c = 46 then [] :: spl t else match spl t with
  | []=>[[c]]
  | p::r=>(c::p)::r
theorem spl_ne(l:List UInt8):spl l≠[]:=by
 cases l with
 | nil=>simp[spl]
 | cons c t =>
  rw[spl]
  split
  ·simp
  ·split<;>simp
theorem spl_app(b:List UInt8):∀ a:List UInt8,spl (a++46::b)=spl a++spl b
 | []=>by simp[spl]
 | c :: t => by
  rw[List.cons_append,spl,spl_app b t]
  conv=>rhs;rw[spl]
  split
  ·rfl
  ·cases h:spl t with
   | nil=>exact absurd h (spl_ne t)
   | cons p r=>rfl
theorem spl_one:∀ a:List UInt8,(46:UInt8) ∉ a->spl a=[a]
 | [],_=>rfl
 | c :: t, h => by
  rw[spl,if_neg (fun e=>h (by rw[e];exact List.mem_cons_self ..)),spl_one t (fun e=>h (List.mem_cons_of_mem _ e))]
theorem spl_no:∀ (l:List UInt8),∀ p∈spl l,(46:UInt8) ∉ p
 | [],p,hp=>by simp[spl]at hp;subst hp;simp
 | c :: t, p, hp => by
  rw[spl]at hp
  split at hp
  ·rcases List.mem_cons.1 hp with h|h
   ·subst h;simp
   ·exact spl_no t p h
  ·rename_i hc
   cases h:spl t with
   | nil=>exact absurd h (spl_ne t)
   | cons q r =>
    rw[h]at hp
    rcases List.mem_cons.1 hp with h1|h1
    ·subst h1
     have:=spl_no t q (by rw[h];exact List.mem_cons_self ..)
     simp only[List.mem_cons,not_or]
     exact⟨fun e=>hc e.symm,this⟩
    ·exact spl_no t p (by rw[h];exact List.mem_cons_of_mem _ h1)
theorem spl_size:∀ (l:List UInt8),∀ p∈spl l,p.length<=l.length
 | [],p,hp=>by simp[spl]at hp;subst hp;simp
 | c :: t, p, hp => by
  rw[spl]at hp
  split at hp
  ·rcases List.mem_cons.1 hp with h|h
   ·subst h;simp
   ·have:=spl_size t p h;simp;omega
  ·cases h:spl t with
   | nil=>exact absurd h (spl_ne t)
   | cons q r =>
    rw[h]at hp
    rcases List.mem_cons.1 hp with h1|h1
    ·subst h1
     have:=spl_size t q (by rw[h];exact List.mem_cons_self ..)
     simp;omega
    ·have:=spl_size t p (by rw[h];exact List.mem_cons_of_mem _ h1)
     simp;omega
def trm (l:List UInt8):List UInt8:=if l.getLast? = some 46 then l.dropLast else l
theorem trm_no{l:List UInt8}(h:l.getLast?≠some 46):trm l=l:=if_neg h
theorem trm_size(l:List UInt8):(trm l).length<=l.length:=by
 unfold trm
 split
 ·simp
 ·exact Nat.le_refl _
def rpt (l:List UInt8):List (List UInt8):=(spl l).reverse
theorem rpt_last{a b:List UInt8}(h:(46:UInt8) ∉ b):rpt (a++46::b)=b::rpt a:=by
 unfold rpt
 rw[spl_app,spl_one b h,List.reverse_append]
 rfl
theorem rpt_one{a:List UInt8}(h:(46:UInt8) ∉ a):rpt a=[a]:=by
 unfold rpt
 rw[spl_one a h]
 rfl
theorem rpt_ne(l:List UInt8):rpt l≠[]:=fun h=>spl_ne l (List.reverse_eq_nil_iff.1 h)
def lst (l:List UInt8):List UInt8:=(rpt (trm l)).head (rpt_ne _)
theorem lst_of{l p:List UInt8}{r:List (List UInt8)}(h:rpt (trm l)=p::r):lst l=p:=by
 unfold lst
 simp only[h,List.head_cons]
def ends (l:List UInt8):Bool:=!(lst l).isEmpty&&((val 10 (lst l)).isSome||(num (lst l)).isSome)
def pgo:Nat->Nat->Nat->List (List UInt8)->Option (Nat × Nat × Nat)
 | c,f,l,[]=>some (c,f,l)
 | c, f, l, p :: t => match num p with
  | none=>none
  | some n=>if c=4 then none else if c=0 then pgo 1 f n t else if 255<n then none else pgo (c+1) (f+n*256 ^ (c-1)) l t
def fit:Nat × Nat × Nat->Option Nat
 | (c,f,l)=>if l<256 ^ (5-c) then some (f*256 ^ (5-c)+l) else none
def prs (ps:List (List UInt8)):Option Nat:=(pgo 0 0 0 ps).bind fit
def ans (l:List UInt8):Option Nat:=prs (rpt (trm l))
theorem pgo_long:∀ (ps:List (List UInt8)) (c f l:Nat),c<=4->4<c+ps.length->pgo c f l ps=none
 | [],c,f,l,h1,h2=>by simp at h2;omega
 | q :: t, c, f, l, h1, h2 => by
  rw[List.length_cons]at h2
  rw[pgo]
  split
  ·rfl
  ·split
   ·rfl
   ·split
    ·exact pgo_long t _ _ _ (by omega) (by omega)
    ·split
     ·rfl
     ·exact pgo_long t _ _ _ (by omega) (by omega)
theorem pgo_count:∀ (ps:List (List UInt8)) (c f l c' f' l':Nat),pgo c f l ps=some (c',f',l')->c'=c+ps.length
 | [],c,f,l,c',f',l',h=>by simp only[pgo,Option.some.injEq,Prod.mk.injEq]at h;simp;omega
 | q :: t, c, f, l, c', f', l', h => by
  rw[List.length_cons]
  rw[pgo]at h
  split at h
  ·cases h
  ·split at h
   ·cases h
   ·split at h
    ·have:=pgo_count t _ _ _ _ _ _ h;omega
    ·split at h
     ·cases h
     ·have:=pgo_count t _ _ _ _ _ _ h;omega
theorem pgo_lim:∀ (ps:List (List UInt8)) (c f l c' f' l':Nat),pgo c f l ps=some (c',f',l')->(c=0->f=0)->(0<c->f<256 ^ (c-1))->l<=4294967296->(c'=0->f'=0)/\(0<c'->f'<256 ^ (c'-1))/\l'<=4294967296
 | [], c, f, l, c', f', l', h, h0, h1, h2 => by
  simp only[pgo,Option.some.injEq,Prod.mk.injEq]at h
  obtain⟨rfl,rfl,rfl⟩:=h
  exact⟨h0,h1,h2⟩
 | q :: t, c, f, l, c', f', l', h, h0, h1, h2 => by
  rw[pgo]at h
  split at h
  ·cases h
  ·rename_i n hn
   split at h
   ·cases h
   ·split at h
    ·exact pgo_lim t _ _ _ _ _ _ h (by omega) (fun _=>by rw[h0 ‹_›];exact Nat.pow_pos (by decide)) (num_le hn)
    ·rename_i hc
     split at h
     ·cases h
     ·refine pgo_lim t _ _ _ _ _ _ h (by omega) (fun _ => ?_) h2
      have h3:=h1 (by omega)
      obtain⟨k,rfl⟩:∃ k,c=k+1:=⟨c-1,by omega⟩
      simp only[Nat.add_sub_cancel]at h3 ⊢
      rw[Nat.pow_succ]
      have h4:n*256 ^ k<=255*256 ^ k:=Nat.mul_le_mul_right _ (by omega)
      omega
end Go.Proofs.YtkibdkfdffkkfaaGreatDoor.Fou
