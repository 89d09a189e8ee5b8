import Derived.Lib.Strings
import Derived.Lib.ItoaNum
import Derived.Lib.Join
import Derived.Lib.Case
import Derived.Lib.SlTrimSet
set_option maxRecDepth 100000
set_option maxHeartbeats 8000000
namespace Go.Proofs.YtediahdedmkehaaGreatDoor.Fou
def dv (c:UInt8):Nat:=if 48<=c.toNat/\c.toNat<=57 then c.toNat-48 else if 97<=c.toNat/\c.toNat<=102 then c.toNat-87 else if 65<=c.toNat/\c.toNat<=70 then c.toNat-55 else 99
def cap (n:Nat):Nat:=min n 4294967296
theorem cap_le(n:Nat):cap n<=4294967296:=Nat.min_le_right _ _
theorem cap_of{n:Nat}(h:n<=4294967296):cap n=n:=Nat.min_eq_left h
theorem cap_step(b d n:Nat)(hb:1<=b):cap (cap n*b+d)=cap (n*b+d):=by
 unfold cap
 by_cases h:n<=4294967296
 ·rw[Nat.min_eq_left h]
 ·rw[Nat.min_eq_right (by omega:4294967296<=n)]
  have h1:4294967296*1<=4294967296*b:=Nat.mul_le_mul_left _ hb
  have h2:4294967296*b<=n*b:=Nat.mul_le_mul_right _ (by omega)
  omega
def vgo (b:Nat):Nat->List UInt8->Option Nat
 | n,[]=>some n
 | n,c::t=>if dv c<b then vgo b (cap (n*b+dv c)) t else none
def val (b:Nat) (l:List UInt8):Option Nat:=vgo b 0 l
theorem vgo_snoc(b:Nat)(c:UInt8):∀ (l:List UInt8) (n:Nat),vgo b n (l++[c])=match vgo b n l with|none=>none|some m=>if dv c<b then some (cap (m*b+dv c)) else none
 | [],n=>by simp only[List.nil_append,vgo]
 | x :: t, n => by
  rw[List.cons_append,vgo,vgo]
  split
  ·exact vgo_snoc b c t _
  ·rfl
theorem vgo_app(b:Nat)(k:List UInt8):∀ (l:List UInt8) (n:Nat),vgo b n (l++k)=match vgo b n l with|none=>none|some m=>vgo b m k
 | [],n=>by simp only[List.nil_append,vgo]
 | x :: t, n => by
  rw[List.cons_append,vgo,vgo]
  split
  ·exact vgo_app b k t _
  ·rfl
theorem vgo_le(b:Nat):∀ (l:List UInt8) (n m:Nat),n<=4294967296->vgo b n l=some m->m<=4294967296
 | [],n,m,h,e=>by simp only[vgo,Option.some.injEq]at e;omega
 | x :: t, n, m, h, e => by
  rw[vgo]at e
  split at e
  ·exact vgo_le b t _ m (cap_le _) e
  ·cases e
theorem val_le{b:Nat}{l:List UInt8}{m:Nat}(h:val b l=some m):m<=4294967296:=vgo_le b l 0 m (by decide) h
def dgs:List UInt8->List UInt8 × Nat
 | a::b::t=>if a=48 then (if b=120∨b=88 then (t,16) else (b::t,8)) else (a::b::t,10)
 | l=>(l,10)
def num (l:List UInt8):Option Nat:=if l=[] then none else val (dgs l).2 (dgs l).1
theorem num_le{l:List UInt8}{m:Nat}(h:num l=some m):m<=4294967296:=by
 unfold num at h
 split at h
 ·cases h
 ·exact val_le h
def spl:List UInt8->List (List UInt8)
 | []=>[[]]
 | c :: t => if c = 46 then [] :: spl t else match spl t with
  | []=>[[c]]
  | p::r=>(c::p)::r
theorem spl_ne(l:List UInt8):spl l≠[]:=by
 cases l with
 | nil=>simp[spl]
 | cons c t =>
  rw[spl]
  split
  ·simp
  ·split<;>simp
theorem spl_app(b:List UInt8):∀ a:List UInt8,spl (a++46::b)=spl a++spl b
 | []=>by simp[spl]
 | c :: t => by
  rw[List.cons_append,spl,spl_app b t]
  conv=>rhs;rw[spl]
  split
  ·rfl
  ·cases h:spl t with
   | nil=>exact absurd h (spl_ne t)
   | cons p r=>rfl
theorem spl_one:∀ a:List UInt8,(46:UInt8) ∉ a->spl a=[a]
 | [],_=>rfl
 | c :: t, h => by
  rw[spl,if_neg (fun e=>h (by rw[e];exact List.mem_cons_self ..)),spl_one t (fun e=>h (List.mem_cons_of_mem _ e))]
theorem spl_no:∀ (l:List UInt8),∀ p∈spl l,(46:UInt8) ∉ p
 | [],p,hp=>by simp[spl]at hp;subst hp;simp
 | c :: t, p, hp => by
  rw[spl]at hp
  split at hp
  ·rcases List.mem_cons.1 hp with h|h
   ·subst h;simp
   ·exact spl_no t p h
  ·rename_i hc
   cases h:spl t with
   | nil=>exact absurd h (spl_ne t)
   | cons q r =>
    rw[h]at hp
    rcases List.mem_cons.1 hp with h1|h1
    ·subst h1
     have:=spl_no t q (by rw[h];exact List.mem_cons_self ..)
     simp only[List.mem_cons,not_or]
     exact⟨fun e=>hc e.symm,this⟩
    ·exact spl_no t p (by rw[h];exact List.mem_cons_of_mem _ h1)
theorem spl_join:∀ ps:List (List UInt8),ps≠[]->(∀ p∈ps,(46:UInt8) ∉ p)->spl (Lib.join ps [46])=ps
 | [],h,_=>absurd rfl h
 | [p], _, h => by
  rw[Lib.join_one]
  exact spl_one p (h p (by simp))
 | p :: q :: r, _, h => by
  have e:Lib.join (p::q::r) [46]=p++46::Lib.join (q::r) [46]:=by
   simp[Lib.join,List.intercalate,List.intersperse]
  rw[e,spl_app,spl_one p (h p (List.mem_cons_self ..)),spl_join (q::r) (by simp) (fun x hx=>h x (List.mem_cons_of_mem _ hx))]
  rfl
theorem spl_size:∀ (l:List UInt8),∀ p∈spl l,p.length<=l.length
 | [],p,hp=>by simp[spl]at hp;subst hp;simp
 | c :: t, p, hp => by
  rw[spl]at hp
  split at hp
  ·rcases List.mem_cons.1 hp with h|h
   ·subst h;simp
   ·have:=spl_size t p h;simp;omega
  ·cases h:spl t with
   | nil=>exact absurd h (spl_ne t)
   | cons q r =>
    rw[h]at hp
    rcases List.mem_cons.1 hp with h1|h1
    ·subst h1
     have:=spl_size t q (by rw[h];exact List.mem_cons_self ..)
     simp;omega
    ·have:=spl_size t p (by rw[h];exact List.mem_cons_of_mem _ h1)
     simp;omega
def trm (l:List UInt8):List UInt8:=if l.getLast? = some 46 then l.dropLast else l
theorem trm_dot(l:List UInt8):trm (l++[46])=l:=by simp[trm]
theorem trm_no{l:List UInt8}(h:l.getLast?≠some 46):trm l=l:=if_neg h
theorem trm_size(l:List UInt8):(trm l).length<=l.length:=by
 unfold trm
 split
 ·simp
 ·exact Nat.le_refl _
def rpt (l:List UInt8):List (List UInt8):=(spl l).reverse
theorem rpt_last{a b:List UInt8}(h:(46:UInt8) ∉ b):rpt (a++46::b)=b::rpt a:=by
 unfold rpt
 rw[spl_app,spl_one b h,List.reverse_append]
 rfl
theorem rpt_one{a:List UInt8}(h:(46:UInt8) ∉ a):rpt a=[a]:=by
 unfold rpt
 rw[spl_one a h]
 rfl
theorem rpt_ne(l:List UInt8):rpt l≠[]:=fun h=>spl_ne l (List.reverse_eq_nil_iff.1 h)
def lst (l:List UInt8):List UInt8:=(rpt (trm l)).head (rpt_ne _)
theorem lst_of{l p:List UInt8}{r:List (List UInt8)}(h:rpt (trm l)=p::r):lst l=p:=by
 unfold lst
 simp only[h,List.head_cons]
def ends (l:List UInt8):Bool:=!(lst l).isEmpty&&((val 10 (lst l)).isSome||(num (lst l)).isSome)
def pgo:Nat->Nat->Nat->List (List UInt8)->Option (Nat × Nat × Nat)
 | c,f,l,[]=>some (c,f,l)
 | c, f, l, p :: t => match num p with
  | none=>none
  | some n=>if c=4 then none else if c=0 then pgo 1 f n t else if 255<n then none else pgo (c+1) (f+n*256 ^ (c-1)) l t
def fit:Nat × Nat × Nat->Option Nat
 | (c,f,l)=>if l<256 ^ (5-c) then some (f*256 ^ (5-c)+l) else none
def prs (ps:List (List UInt8)):Option Nat:=(pgo 0 0 0 ps).bind fit
def ans (l:List UInt8):Option Nat:=prs (rpt (trm l))
theorem pgo_long:∀ (ps:List (List UInt8)) (c f l:Nat),c<=4->4<c+ps.length->pgo c f l ps=none
 | [],c,f,l,h1,h2=>by simp at h2;omega
 | q :: t, c, f, l, h1, h2 => by
  rw[List.length_cons]at h2
  rw[pgo]
  split
  ·rfl
  ·split
   ·rfl
   ·split
    ·exact pgo_long t _ _ _ (by omega) (by omega)
    ·split
     ·rfl
     ·exact pgo_long t _ _ _ (by omega) (by omega)
theorem pgo_count:∀ (ps:List (List UInt8)) (c f l c' f' l':Nat),pgo c f l ps=some (c',f',l')->c'=c+ps.length
 | [],c,f,l,c',f',l',h=>by simp only[pgo,Option.some.injEq,Prod.mk.injEq]at h;simp;omega
 | q :: t, c, f, l, c', f', l', h => by
  rw[List.length_cons]
  rw[pgo]at h
  split at h
  ·cases h
  ·split at h
   ·cases h
   ·split at h
    ·have:=pgo_count t _ _ _ _ _ _ h;omega
    ·split at h
     ·cases h
     ·have:=pgo_count t _ _ _ _ _ _ h;omega
theorem pgo_lim:∀ (ps:List (List UInt8)) (c f l c' f' l':Nat),pgo c f l ps=some (c',f',l')->(c=0->f=0)->(0<c->f<256 ^ (c-1))->l<=4294967296->(c'=0->f'=0)/\(0<c'->f'<256 ^ (c'-1))/\l'<=4294967296
 | [], c, f, l, c', f', l', h, h0, h1, h2 => by
  simp only[pgo,Option.some.injEq,Prod.mk.injEq]at h
  obtain⟨rfl,rfl,rfl⟩:=h
  exact⟨h0,h1,h2⟩
 | q :: t, c, f, l, c', f', l', h, h0, h1, h2 => by
  rw[pgo]at h
  split at h
  ·cases h
  ·rename_i n hn
   split at h
   ·cases h
   ·split at h
    ·exact pgo_lim t _ _ _ _ _ _ h (by omega) (fun _=>by rw[h0 ‹_›];exact Nat.pow_pos (by decide)) (num_le hn)
    ·rename_i hc
     split at h
     ·cases h
     ·refine pgo_lim t _ _ _ _ _ _ h (by omega) (fun _ => ?_) h2
      have h3:=h1 (by omega)
      obtain⟨k,rfl⟩:∃ k,c=k+1:=⟨c-1,by omega⟩
      simp only[Nat.add_sub_cancel]at h3 ⊢
      rw[Nat.pow_succ]
      have h4:n*256 ^ k<=255*256 ^ k:=Nat.mul_le_mul_right _ (by omega)
      omega
end Go.Proofs.YtediahdedmkehaaGreatDoor.Fou
namespace Go.Proofs.YtediahdedmkehaaGreatDoor.Fou
def dgB (d:Nat):UInt8:=if d<10 then UInt8.ofNat (48+d) else UInt8.ofNat (87+d)
def digs (b n:Nat):List UInt8:=if _h:n<b∨b<2 then [dgB n] else digs b (n/b)++[dgB (n%b)]
termination_by n
decreasing_by exact Nat.div_lt_self (by omega) (by omega)
theorem digs_lt{b n:Nat}(h:n<b):digs b n=[dgB n]:=by rw[digs,dif_pos (.inl h)]
theorem digs_ge{b n:Nat}(hb:2<=b)(h:¬ n<b):digs b n=digs b (n/b)++[dgB (n%b)]:=by rw[digs,dif_neg (by omega)]
theorem dgB_all:∀ d:Fin 16,dv (dgB d.val)=d.val/\dgB d.val≠46/\dv (Lib.upperB (dgB d.val))=d.val/\Lib.upperB (dgB d.val)≠46/\(dgB d.val=48->d.val=0)/\dgB d.val≠120/\dgB d.val≠88/\Lib.upperB (dgB d.val)≠120/\Lib.upperB (dgB d.val)≠88/\(dgB d.val).toNat<128:=by decide
theorem dgB_ok{d:Nat}(h:d<16):dv (dgB d)=d/\dgB d≠46/\dv (Lib.upperB (dgB d))=d/\Lib.upperB (dgB d)≠46/\(dgB d=48->d=0)/\dgB d≠120/\dgB d≠88/\Lib.upperB (dgB d)≠120/\Lib.upperB (dgB d)≠88/\(dgB d).toNat<128:=dgB_all ⟨d,h⟩
theorem digs_ne(b n:Nat):digs b n≠[]:=by
 rw[digs]
 split<;>simp
theorem digs_mem{b:Nat}(hb:2<=b):∀ (n:Nat),∀ c∈digs b n,∃ d,d<b/\c=dgB d:=by
 intro n
 induction n using Nat.strongRecOn with
 | _ n ih =>
  intro c hc
  by_cases h:n<b
  ·rw[digs_lt h,List.mem_singleton]at hc
   exact⟨n,h,hc⟩
  ·rw[digs_ge hb h]at hc
   rcases List.mem_append.1 hc with h1|h1
   ·exact ih (n/b) (Nat.div_lt_self (by omega) (by omega)) c h1
   ·rw[List.mem_singleton]at h1
    exact⟨n%b,Nat.mod_lt _ (by omega),h1⟩
theorem digs_val{b:Nat}(hb:2<=b)(hb16:b<=16):∀ n,val b (digs b n)=some (cap n):=by
 intro n
 induction n using Nat.strongRecOn with
 | _ n ih =>
  by_cases h:n<b
  ·rw[digs_lt h,val,vgo,(dgB_ok (by omega:n<16)).1,if_pos h,vgo,Nat.zero_mul,Nat.zero_add]
  ·have hm:n%b<b:=Nat.mod_lt _ (by omega)
   have:=ih (n/b) (Nat.div_lt_self (by omega) (by omega))
   rw[val]at this
   rw[digs_ge hb h,val,vgo_snoc,this]
   show (if dv (dgB (n%b))<b then some (cap (cap (n/b)*b+dv (dgB (n%b)))) else none)=_
   rw[(dgB_ok (by omega:n%b<16)).1,if_pos hm,cap_step b _ _ (by omega),Nat.mul_comm,Nat.div_add_mod]
theorem digs_head{b:Nat}(hb:2<=b)(hb16:b<=16):∀ n,(digs b n).head? = some 48->n=0:=by
 intro n
 induction n using Nat.strongRecOn with
 | _ n ih =>
  intro h
  by_cases hn:n<b
  ·rw[digs_lt hn]at h
   exact (dgB_ok (by omega:n<16)).2.2.2.2.1 (Option.some.inj h)
  ·have hd:(digs b (n/b)++[dgB (n%b)]).head? = (digs b (n/b)).head?:=by
    cases hq:digs b (n/b) with
    | nil=>exact absurd hq (digs_ne b (n/b))
    | cons a t=>rfl
   rw[digs_ge hb hn,hd]at h
   have h0:=ih (n/b) (Nat.div_lt_self (by omega) (by omega)) h
   have:=Nat.div_eq_zero_iff.1 h0
   omega
theorem digs_num(n:Nat):num (digs 10 n)=some (cap n):=by
 unfold num
 rw[if_neg (digs_ne 10 n)]
 have:dgs (digs 10 n)=(digs 10 n,10):=by
  cases h:digs 10 n with
  | nil=>rfl
  | cons a t =>
   cases t with
   | nil=>rfl
   | cons b t =>
    rw[dgs,if_neg]
    rintro rfl
    have h0:=digs_head (b:=10) (by decide) (by decide) n (by rw[h];rfl)
    rw[h0,digs_lt (by decide)]at h
    exact absurd (congrArg List.length h) (by simp)
 rw[this]
 exact digs_val (b:=10) (by decide) (by decide) n
theorem digs_no{b:Nat}(hb:2<=b)(hb16:b<=16)(n:Nat):(46:UInt8) ∉ digs b n:=fun h=>by
 obtain⟨d,hd,e⟩:=digs_mem hb n _ h
 exact (dgB_ok (by omega:d<16)).2.1 e.symm
theorem dec_digs:∀ n,Lib.decDigits n=digs 10 n:=by
 intro n
 induction n using Nat.strongRecOn with
 | _ n ih =>
  rw[Lib.decDigits]
  by_cases h:n<10
  ·rw[dif_pos h,digs_lt h,dgB,if_pos h]
  ·rw[dif_neg h,digs_ge (by decide) h,ih (n/10) (Nat.div_lt_self (by omega) (by decide)),dgB,if_pos (Nat.mod_lt _ (by decide))]
theorem digs_len{b:Nat}(hb:2<=b):∀ (k n:Nat),n<b ^ (k+1)->(digs b n).length<=k+1
 | 0, n, h => by
  rw[digs_lt (by simpa using h)]
  simp
 | k + 1, n, h => by
  by_cases hn:n<b
  ·rw[digs_lt hn];simp
  ·rw[digs_ge hb hn,List.length_append,List.length_singleton]
   have:=digs_len hb k (n/b) (by rw[Nat.div_lt_iff_lt_mul (by omega),<-Nat.pow_succ];exact h)
   omega
theorem trm_spl{l:List UInt8}(h:(spl l).getLast?≠some []):trm l=l:=by
 refine trm_no fun e=>h ?_
 obtain⟨a,rfl⟩:∃ a,l=a++[46]:=by
  have hne:l≠[]:=fun e2=>by rw[e2]at e;cases e
  refine⟨l.dropLast, ?_⟩
  have h1:=List.getLast?_eq_some_getLast hne
  rw[e]at h1
  exact (List.dropLast_concat_getLast hne).symm.trans (by rw[<-Option.some.inj h1])
 rw[spl_app,List.getLast?_append]
 rfl
theorem rpt_join(ps:List (List UInt8))(hne:ps≠[])(hno:∀ p∈ps,(46:UInt8) ∉ p)(hl:ps.getLast?≠some []):rpt (trm (Lib.join ps [46]))=ps.reverse:=by
 have h:=spl_join ps hne hno
 rw[trm_spl (by rw[h];exact hl),rpt,h]
theorem ans_join(ps:List (List UInt8))(hne:ps≠[])(hno:∀ p∈ps,(46:UInt8) ∉ p)(hl:ps.getLast?≠some []):ans (Lib.join ps [46])=prs ps.reverse:=by
 rw[ans,rpt_join ps hne hno hl]
theorem rpt_join_dot(ps:List (List UInt8))(hne:ps≠[])(hno:∀ p∈ps,(46:UInt8) ∉ p):rpt (trm (Lib.join ps [46]++[46]))=ps.reverse:=by
 rw[trm_dot,rpt,spl_join ps hne hno]
theorem ends_of{l p:List UInt8}{r:List (List UInt8)}{n:Nat}(h:rpt (trm l)=p::r)(hn:num p=some n):ends l=true:=by
 unfold ends
 rw[lst_of h,hn]
 have:p≠[]:=fun e=>by rw[e]at hn;cases hn
 cases p with
 | nil=>exact absurd rfl this
 | cons a t=>simp
def byt (x j:Nat):Nat:=x/2 ^ (24-8*j)%256
def bts (x:Nat):List (List UInt8):=[digs 10 (byt x 0),digs 10 (byt x 1),digs 10 (byt x 2),digs 10 (byt x 3)]
def shw (x:Nat):List UInt8:=Lib.join (bts x) [46]
theorem byt_lt(x j:Nat):byt x j<256:=Nat.mod_lt _ (by decide)
theorem byt_num(x j:Nat):num (digs 10 (byt x j))=some (byt x j):=by
 rw[digs_num,cap_of (by have:=byt_lt x j;omega)]
theorem bts_no(x:Nat):∀ p∈bts x,(46:UInt8) ∉ p:=by
 intro p hp
 simp only[bts,List.mem_cons,List.not_mem_nil,or_false]at hp
 rcases hp with rfl|rfl|rfl|rfl<;>exact digs_no (by decide) (by decide) _
theorem bts_last(x:Nat):(bts x).getLast?≠some []:=by
 simp only[bts,List.getLast?_cons_cons,List.getLast?_singleton,ne_eq,Option.some.injEq]
 exact digs_ne _ _
theorem prs_bts{x:Nat}(hx:x<4294967296):prs (bts x).reverse=some x:=by
 have h0:=byt_lt x 0
 have h1:=byt_lt x 1
 have h2:=byt_lt x 2
 have h3:=byt_lt x 3
 have e:x=((byt x 0*256+byt x 1)*256+byt x 2)*256+byt x 3:=by
  unfold byt
  simp only[Nat.mul_zero,Nat.sub_zero,Nat.mul_one,Nat.reduceMul,Nat.reduceSub,Nat.reducePow,Nat.pow_zero,Nat.div_one]
  omega
 have n0:=byt_num x 0
 have n1:=byt_num x 1
 have n2:=byt_num x 2
 have n3:=byt_num x 3
 unfold prs bts
 generalize byt x 0=a at *
 generalize byt x 1=b at *
 generalize byt x 2=c at *
 generalize byt x 3=d at *
 have g1:¬ 255<a:=by omega
 have g2:¬ 255<b:=by omega
 have g3:¬ 255<c:=by omega
 simp[pgo,n0,n1,n2,n3,g1,g2,g3,fit]
 omega
theorem ans_shw{x:Nat}(hx:x<4294967296):ans (shw x)=some x:=by
 rw[shw,ans_join _ (by simp[bts]) (bts_no x) (bts_last x),prs_bts hx]
theorem ans_shw_dot{x:Nat}(hx:x<4294967296):ans (shw x++[46])=some x:=by
 rw[ans,shw,rpt_join_dot _ (by simp[bts]) (bts_no x),prs_bts hx]
theorem ends_shw(x:Nat):ends (shw x)=true :=
 ends_of (by rw[shw,rpt_join _ (by simp[bts]) (bts_no x) (bts_last x)];rfl) (byt_num x 3)
theorem ends_shw_dot(x:Nat):ends (shw x++[46])=true :=
 ends_of (by rw[shw,rpt_join_dot _ (by simp[bts]) (bts_no x)];rfl) (byt_num x 3)
theorem bts_len(x:Nat):∀ p∈bts x,p.length<=3:=by
 intro p hp
 simp only[bts,List.mem_cons,List.not_mem_nil,or_false]at hp
 rcases hp with rfl|rfl|rfl|rfl<;>exact digs_len (by decide) 2 _ (Nat.lt_of_lt_of_le (byt_lt _ _) (by decide))
theorem shw_len(x:Nat):(shw x).length<=15:=by
 have h:=bts_len x
 simp only[bts,List.mem_cons,List.not_mem_nil,or_false,forall_eq_or_imp,forall_eq]at h
 simp[shw,bts,Lib.join,List.intercalate,List.intersperse]
 omega
end Go.Proofs.YtediahdedmkehaaGreatDoor.Fou
