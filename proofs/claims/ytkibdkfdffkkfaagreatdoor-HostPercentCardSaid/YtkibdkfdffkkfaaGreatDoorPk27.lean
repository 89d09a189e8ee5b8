import Derived.RangeFuncNested
import Derived.RangeFuncBound
set_option maxRecDepth 100000
set_option maxHeartbeats 8000000
namespace Go.Proofs.YtkibdkfdffkkfaaGreatDoor
open Go.RowKit
variable {F:Fence} {n:Nat} {P:Program} {w:World}
def It (n1 D H j:Nat):Prop:=n1<=j/\j<H/\j≠D/\j≠D+1
def Kept (n0 n1 D H:Nat) (W W':World):Prop:=W.heap.size<=W'.heap.size/\∀ j,j<n0∨It n1 D H j->W'.heap[j]? = W.heap[j]?
theorem Kept.trans{n0 n1 D H:Nat}{A B C:World}(h:Kept n0 n1 D H A B)(k:Kept n0 n1 D H B C):Kept n0 n1 D H A C :=
 ⟨Nat.le_trans h.1 k.1,fun j hj=>(k.2 j hj).trans (h.2 j hj)⟩
theorem Kept.books{n0 n1 D H:Nat}(h:n0<=D)(W:World)(o:Obj):Kept n0 n1 D H W (W.putObj (D+1) o) :=
 ⟨by simp[World.putObj],fun j hj=>World.putObj_heap_other (by
  rcases hj with h1|⟨_,_,_,h2⟩
  ·omega
  ·omega)⟩
section
variable {α:Type}
def AbIt (n1 D H:Nat) (J:List α->World->Prop):Prop:=∀ s W W' row,J s W->W.grownBy W' row->(∀ r,row=some r->It n1 D H r)->J s W'
def AbAll (n1 H:Nat) (J:List α->World->Prop):Prop:=∀ s W W' row,J s W->W.grownBy W' row->(∀ r,row=some r->n1<=r/\r<H)->J s W'
def Iter (F:Fence) (n:Nat) (P:Program) (gf:Nat) (lb:Array Value) (encs:α->Array Value) (n0 n1 D:Nat) (G:List α->α->Prop) (S Sp:List α->Prop) (N:Nat) (W0:World):Prop :=
 ∀ (J : Nat → List α → World → Prop) (Jx : List α → World → Prop), (∀ H, AbIt n1 D H (J H)) →
  (∀ H pre x W,W0.heap.size<=H->H<=W.heap.size->J H pre W->pre.length<N->G pre x->YieldAt F (n-1) P (D+1) (encs x) W fun e W' =>
   (e = .returned (.bool true)/\J H (pre++[x]) W'/\Kept n0 n1 D H W W')∨(e = .returned (.bool false)/\Jx (pre++[x]) W')) ->
  (∀ H,W0.heap.size<=H->J H [] W0) ->
  CallsIn F n P gf (#[.func (.yield (D+1)) #[] #[]]++lb) W0 fun e W'=>(∃ v,e = .returned v) /\
   ((∃ H xs,W0.heap.size<=H/\S xs/\J H xs W')∨(∃ pre,Sp pre/\Jx pre W'))
def SameBooks (D:Nat) (W W':World):Prop:=W'.heap[D]? = W.heap[D]?/\W'.heap[D+1]? = W.heap[D+1]?
def iterPost (n0 n1 D H:Nat) (I:List α->World->Prop) (Ix:List α->World->Prop) (xs:List α) (W:World):Exit->Act->World->Prop
 | .normal,_,W'=>SameBooks D W W'/\Kept n0 n1 D H W W'/\I xs W'
 | .ret,_,W'=>SameBooks D W W'/\Ix xs W'
 | _,_,_=>False
theorem wpIn_iter{g:Operand}{ps:Array Tmp}{assign body:Code}{Q:Exit->Act->World->Prop}{a:Act}(hro:F.round=none)(h1:1<=n){gf:Nat}{lb:Array Value}
  (hg:a.eval g = .func (.func gf) #[] lb) (hFg:F.fn gf) (eg:∀ args w,(callFunc gf args).run P w = .ok (.enter gf args) w)
  {encs:α->Array Value} {G:List α->α->Prop} {S Sp:List α->Prop} {N n0 n1:Nat} (hn0:n0<=w.heap.size) (hn1:n1<=w.heap.size) (hps:∀ x,(encs x).size=ps.size)
  (hseq:∀ W0,Below w.heap.size w W0->W0.heap.size=w.heap.size+2->Iter F (n-1) P gf lb encs n0 n1 w.heap.size G S Sp N W0)
  (I:Nat->List α->World->Prop) (Ix:List α->World->Prop) (hI:∀ H,AbAll n1 H (I H)) (hIx:AbAll n1 (w.heap.size+2) Ix) (h0:∀ H,w.heap.size+2<=H->I H [] w) (Ax:α->Act->Prop)
  (hassign:∀ (l:Nat) (x:α) (W:World) (K:Act->World->Prop),(∀ a',Ax x a'->K a' W) ->
   assign.wpIn (F.inRound l) (n-1-1) P (Exit.then K (fun _ _ _=>False)) { tmps:=(ps.zip (encs x)).foldl (fun t (p,v)=>t.setIfInBounds p v) a.tmps,defers:=[] } W)
  (hbody:∀ (H l:Nat) (pre:List α) (x:α) (a':Act) (W:World),w.heap.size+2<=H->H<=W.heap.size->I H pre W->Ax x a'->pre.length<N->G pre x ->
   body.wpIn (F.inRound l) (n-1-1) P (iterPost n0 n1 w.heap.size H (I H) Ix (pre++[x]) W) a' W)
  (hdone:∀ (H:Nat) (xs:List α) (W:World),w.heap.size+2<=H->S xs->I H xs W->W.heap[w.heap.size]? = some (.deferred (some []))->Q .normal { a with defers:={ target:=.collected w.heap.size,args:=#[] } :: a.defers } W)
  (hstop:∀ (pre:List α) (W:World),Sp pre->Ix pre W->W.heap[w.heap.size]? = some (.deferred (some []))->Code.ret.wpIn F n P Q { a with defers:={ target:=.collected w.heap.size,args:=#[] } :: a.defers } W) :
  (Code.rangeFunc g ps assign body).wpIn F n P Q a w:=by
 refine wpIn_rangeFunc fun fn hfn => ?_
 rw[hro]
 obtain⟨rec,hrec⟩:∃ rec:LoopState->Option Code->Loop,rec=fun st pe => { state:=st,pending:=pe,fn,tmps:=a.tmps,params:=ps,assign,body,defers:=w.heap.size }:=⟨_,rfl⟩
 have hB:Below w.heap.size w ((w.alloc (.deferred (some []))).alloc (.loop (rec .ready none))):=((Below.refl _ w).alloc (Nat.le_refl _) _).alloc (by simp) _
 have hsz:((w.alloc (.deferred (some []))).alloc (.loop (rec .ready none))).heap.size=w.heap.size+2:=by simp
 have hD1:((w.alloc (.deferred (some []))).alloc (.loop (rec .ready none))).heap[w.heap.size+1]? = some (.loop (rec .ready none)):=by
  have:=World.alloc_heap_new (w.alloc (.deferred (some []))) (.loop (rec .ready none));rwa [World.size_alloc]at this
 have hD0:((w.alloc (.deferred (some []))).alloc (.loop (rec .ready none))).heap[w.heap.size]? = some (.deferred (some [])) :=
  (Below.heap_alloc _ _ _ (by simp)).trans (World.alloc_heap_new w _)
 have hIW:∀ H,w.heap.size+2<=H->I H [] ((w.alloc (.deferred (some []))).alloc (.loop (rec .ready none))):=fun H hH =>
  hI H _ _ _ none (hI H _ _ _ none (h0 H hH) (World.grownBy_alloc _ _ _) (fun _ e=>by cases e)) (World.grownBy_alloc _ _ _) (fun _ e=>by cases e)
 have hrun:=run_enterLoop_outer (P:=P) (w:=w) fn a.tmps ps assign body
 rw[show ({ state:=.ready,pending:=none,fn,tmps:=a.tmps,params:=ps,assign,body,defers:=w.heap.size }:Loop)=rec .ready none by rw[hrec]]at hrun
 generalize (w.alloc (.deferred (some []))).alloc (.loop (rec .ready none))=W1 at hB hsz hD1 hD0 hIW hrun
 have put:∀ {H:Nat} {s:List α} {W:World} (o:Obj),w.heap.size+2<=H->I H s W->I H s (W.putObj (w.heap.size+1) o):=fun o hH hs =>
  hI _ _ _ _ (some (w.heap.size+1)) hs (grownBy_putObj' _ _ o) (fun r e=>by cases e;exact⟨by omega,by omega⟩)
 have putx:∀ {s:List α} {W:World} (o:Obj),Ix s W->Ix s (W.putObj (w.heap.size+1) o):=fun o hs =>
  hIx _ _ _ (some (w.heap.size+1)) hs (grownBy_putObj' _ _ o) (fun r e=>by cases e;exact⟨by omega,by omega⟩)
 have far:∀ {W:World} {o:Obj},(W.putObj (w.heap.size+1) o).heap[w.heap.size]? = W.heap[w.heap.size]?:=World.putObj_heap_other (by omega)
 refine⟨w.heap.size+1,[{ target:=.collected w.heap.size,args:=#[] }],W1,{ target:=.fn (.func gf) lb,args:=#[.func (.yield (w.heap.size+1)) #[] #[]] },W1,gf,
  #[.func (.yield (w.heap.size+1)) #[] #[]]++lb,W1,hrun, ?_, ?_, ?_,fun _=>h1, ?_⟩
 ·simp only[resolve,hg];simp[go_sem]
 ·intro f' hf';simp[Target.leads]at hf';subst hf';exact hFg
 ·simp[invoke,go_sem,eg]
 refine (hseq W1 hB hsz
  (fun H pre W=>I H pre W/\W.heap[w.heap.size+1]? = some (.loop (rec .ready none))/\W.heap[w.heap.size]? = some (.deferred (some [])))
  (fun pre W=>Ix pre W/\W.heap[w.heap.size+1]? = some (.loop (rec .done (some .ret)))/\W.heap[w.heap.size]? = some (.deferred (some [])))
  (fun H s A B row hs hgr hr=>⟨hI H s A B row hs.1 hgr (fun r e=>⟨(hr r e).1,(hr r e).2.1⟩),
   (hgr.block _ (Array.getElem?_eq_some_iff.1 hs.2.1).1 (fun e=>(hr _ e.symm).2.2.2 rfl)).trans hs.2.1,
   (hgr.block _ (Array.getElem?_eq_some_iff.1 hs.2.2).1 (fun e=>(hr _ e.symm).2.2.1 rfl)).trans hs.2.2⟩)
  ?_ (fun H hH=>⟨hIW H (by omega),hD1,hD0⟩)).mono ?_
 ·
  rintro H pre x W hH hHW ⟨hi,hl,hk⟩ hlen hgood
  rw[hsz]at hH
  have hy:=run_yield (P:=P) (args:=encs x) hl (by rw[hrec];exact hps x)
  rw[hrec]at hy
  refine⟨fn,_,assign,body,hy,roundIn_of_wpIn hfn (hassign _ x W _ fun a' hax => ?_)⟩
  refine⟨_,run_beginRound hl (by rw[hrec]), ?_⟩
  have hlt:w.heap.size+1<W.heap.size:=(Array.getElem?_eq_some_iff.1 hl).1
  have hl2:(W.putObj (w.heap.size+1) (.loop { rec .ready none with state:=.busy })).heap[w.heap.size+1]? = some (.loop { rec .ready none with state:=.busy }):=World.putObj_heap_same hlt
  have hk2:=(far (W:=W) (o:=.loop { rec .ready none with state:=.busy })).trans hk
  have hi2:=put (.loop { rec .ready none with state:=.busy }) hH hi
  have hkp:=Kept.books (n0:=n0) (n1:=n1) (D:=w.heap.size) (H:=H) hn0 W (.loop { rec .ready none with state:=.busy })
  have hsz2:(W.putObj (w.heap.size+1) (.loop { rec .ready none with state:=.busy })).heap.size=W.heap.size:=by simp[World.putObj]
  refine wpIn_mono (hbody H _ pre x a' _ hH (by rw[hsz2];exact hHW) hi2 hax hlen hgood) ?_
  rintro e a3 W3 hp
  cases e with
  | normal =>
   obtain⟨hsb,hkp3,hi3⟩:=hp
   have hl3:=hsb.2.trans hl2
   refine⟨_,_,run_endRound (P:=P) none hl3,.inl ⟨rfl,⟨put _ hH hi3, ?_,far.trans (hsb.1.trans hk2)⟩,(hkp.trans hkp3).trans (Kept.books hn0 _ _)⟩⟩
   rw[World.putObj_heap_same (Array.getElem?_eq_some_iff.1 hl3).1,hrec]
   rfl
  | ret =>
   obtain⟨hsb,hi3⟩:=hp
   have hl3:=hsb.2.trans hl2
   refine⟨_,_,run_endRound (P:=P) (some .ret) hl3,.inr ⟨rfl,putx _ hi3, ?_,far.trans (hsb.1.trans hk2)⟩⟩
   rw[World.putObj_heap_same (Array.getElem?_eq_some_iff.1 hl3).1,hrec]
   rfl
  | exit id=>exact hp.elim
  | goto t=>exact hp.elim
  | panic ch=>exact hp.elim
  | outgrown=>exact hp.elim
 ·
  rintro e W2 ⟨⟨v,rfl⟩,(⟨H,xs,hH,hS,hi,hl,hk⟩|⟨pre,hSp,hi,hl,hk⟩)⟩
  ·have he:=run_endLoop (P:=P) hl (by rw[hrec];simp)
   refine⟨none,_,by rw[hrec]at he;exact he,hdone H xs _ (by omega) hS (put _ (by omega) hi) (far.trans hk)⟩
  ·have he:=run_endLoop (P:=P) hl (by rw[hrec];simp)
   refine⟨some .ret,_,by rw[hrec]at he;exact he,hstop pre _ hSp (putx _ hi) (far.trans hk)⟩
end
end Go.Proofs.YtkibdkfdffkkfaaGreatDoor
