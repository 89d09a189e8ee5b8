import Derived.Test.YtediahdedmkehaaGreatDoorPk32
import Derived.Lib.LaidU8
import Derived.HandedShaped
import Derived.WideKeyArr2
set_option maxRecDepth 100000
set_option maxHeartbeats 8000000
namespace Go.Proofs.YtediahdedmkehaaGreatDoor.Sx
open Go.RowKit
theorem pow_gn : Tryz.prog.globalNamed "internal/strconv.uint64pow10" = some 4 := by kernel_rfl
theorem pow_gt:(Tryz.prog.globals[4]?).map (·.type)=some 265:=by kernel_rfl
theorem pow_ct:Tryz.prog.cellsOf 265=20:=by kernel_rfl
theorem pow_ce:Tryz.prog.cellsOf 78=1:=by kernel_rfl
theorem pow_datum:(Rows.laid_internal_strconv_uint64pow10:DataW Unit)=Lib.tabData .u64 Lib.pow10Tab:=by kernel_rfl
theorem powIs_of_reads {W : World} (h : Lib.VarReads Tryz.prog W "internal/strconv.uint64pow10" Rows.laid_internal_strconv_uint64pow10) : PowIs W := by
 obtain⟨gv,t,cs,fuel,p,hg,ht,hv,hd⟩:=h
 obtain rfl:=Option.some.inj (pow_gn.symm.trans hg)
 obtain rfl:=Option.some.inj (pow_gt.symm.trans ht)
 rw[pow_datum]at hd
 unfold PowIs Lib.TabIs
 rw[hv,<-Lib.cells_of_tab Tryz.underlying265 Tryz.underlying78 pow_ce pow_ct hd]
def bruL:List Int:=Lib.deBruijn64tab.map Int.ofNat
theorem bru_gn : Tryz.prog.globalNamed "math/bits.deBruijn64tab" = some 6 := by kernel_rfl
theorem bru_gt:(Tryz.prog.globals[6]?).map (·.type)=some 339:=by kernel_rfl
theorem bru_ct:Tryz.prog.cellsOf 339=64:=by kernel_rfl
theorem bru_ce:Tryz.prog.cellsOf 5=1:=by kernel_rfl
theorem bru_datum:(Rows.laid_math_bits_deBruijn64tab:DataW Unit)=Lib.tabData .u8 bruL:=by kernel_rfl
theorem bru_of_reads {W : World} (h : Lib.VarReads Tryz.prog W "math/bits.deBruijn64tab" Rows.laid_math_bits_deBruijn64tab) : W.cell? ⟨6, 15, none⟩ = some (.int .u8 4) := by
 obtain⟨gv,t,cs,fuel,p,hg,ht,hv,hd⟩:=h
 obtain rfl:=Option.some.inj (bru_gn.symm.trans hg)
 obtain rfl:=Option.some.inj (bru_gt.symm.trans ht)
 rw[bru_datum]at hd
 have hcs:=Lib.cells_of_tab Tryz.underlying339 Tryz.underlying5 bru_ce bru_ct hd
 rw[World.var?_cell hg hv 15,<-Array.getElem?_toList,hcs]
 rfl
theorem err_of{W:World}{name:String}{g:Nat}{nm:String}{d:DataW Unit}(hgn:Tryz.prog.globalNamed name=some g)(hgt:(Tryz.prog.globals[g]?).map (·.type)=some 72)(h:Lib.VarReads Tryz.prog W name (.iface nm d)):∃ te pe,W.cell? ⟨g,0,none⟩=some (.iface te pe):=by
 obtain⟨gv,t,cs,fuel,p,hg,ht,hv,hd⟩:=h
 obtain rfl:=Option.some.inj (hgn.symm.trans hg)
 obtain rfl:=Option.some.inj (hgt.symm.trans ht)
 obtain⟨f',u,v,hcs,_,_⟩:=iface_of_trod Tryz.underlying72 hd
 exact⟨u,v,by rw[World.var?_cell hg hv 0,<-Array.getElem?_toList,hcs];rfl⟩
theorem max_of{W:World}(h:W.ShapedOpen Tryz.prog):∃ m,W.cell? ⟨1,0,none⟩=some (.int .i64 m) :=
 cell_of_shapedOpen_int (zero:=#[.int .i64 0]) (t:=3) h (of_decide_eq_true (by kernel_rfl)) (by kernel_rfl) rfl (by kernel_rfl) (by kernel_rfl) Tryz.underlying3
theorem env_of {W : World} (h : W.ShapedOpen Tryz.prog) (h1 : Lib.VarReads Tryz.prog W "math/bits.deBruijn64tab" Rows.laid_math_bits_deBruijn64tab) (h2 : Lib.VarReads Tryz.prog W "internal/strconv.uint64pow10" Rows.laid_internal_strconv_uint64pow10)
  (h3 : Lib.VarReads Tryz.prog W "strconv.ErrRange" Rows.laid_strconv_ErrRange) (h4 : Lib.VarReads Tryz.prog W "strconv.ErrSyntax" Rows.laid_strconv_ErrSyntax) : Env W where
 max:=max_of h
 syn:=err_of (by kernel_rfl) (by kernel_rfl) h4
 ran:=err_of (by kernel_rfl) (by kernel_rfl) h3
 pow:=powIs_of_reads h2
 bru:=bru_of_reads h1
theorem arr8_key:WideMaps.ArrKey Tryz.prog 25 24 8:=⟨Tryz.underlying25,by kernel_rfl,by kernel_rfl,by kernel_rfl⟩
theorem ce16:Tryz.prog.cellsOf 24=1:=by kernel_rfl
theorem nums_of:∀ (l:List Value),(∀ i,i<l.length->∃ a:Nat,a<65536/\l[i]? = some (.int .u16 (a:Int)))->∃ x:List Nat,l=cu x/\∀ m∈x,m<65536
 | [],_=>⟨[],rfl,fun m hm=>by simp at hm⟩
 | v :: t, h => by
  obtain⟨a,ha,he⟩:=h 0 (by simp)
  obtain⟨x,hx,hm⟩:=nums_of t fun i hi=>h (i+1) (by simpa using hi)
  refine⟨a::x, ?_,fun m hm' => ?_⟩
  ·rw[hx]
   simp at he
   rw[he]
   rfl
  ·rcases List.mem_cons.1 hm' with e|e
   ·subst e;exact ha
   ·exact hm m e
theorem arr8_open{H:Type}{enc:TypeId × Value->H}{W:World}{base:Nat}{sp:Nat->Bool}{held:Bool}{xs:Array Value}(hn:xs.size=8){d:DataW H}{ps:List MemPlace}(hd:DataW.Trod enc Tryz.prog W base sp held 25 (.agg xs) d ps) :
  ps=[]/\∃ x:List Nat,x.length=8/\(∀ m∈x,m<65536)/\xs=(cu x).toArray:=by
 obtain⟨ls,rfl,rfl,_⟩:=WideMaps.open_arr arr8_key Tryz.underlying24 ⟨Tryz.prog.types.size-1,by kernel_rfl⟩ hn hd
 obtain⟨fuel,hf⟩:=hd
 obtain⟨x,hx,hm⟩:=nums_of xs.toList (by
  intro i hi
  have hi8:i<8:=by simpa[hn] using hi
  obtain⟨fuel',d',q',h1,h2⟩:=Lib.array_elem Tryz.underlying25 hf i hi8
  rw[ce16,Nat.mul_one]at h2
  obtain⟨a,ea,_,wa⟩:=DataW.trod_int Tryz.underlying24 h2
  have b:0<=a/\a<=65535:=by simpa[Lit.wf,IntKind.min,IntKind.max,IntKind.signed,IntKind.bits] using wa
  obtain⟨n,rfl⟩:=Int.eq_ofNat_of_zero_le b.1
  refine⟨n,by omega, ?_⟩
  have ea2:(xs.toList.drop i).take 1=[.int .u16 (n:Int)]:=ea
  have e:((xs.toList.drop i).take 1)[0]? = some (.int .u16 (n:Int)):=by rw[ea2];rfl
  rw[List.getElem?_take,if_pos (by decide),List.getElem?_drop]at e
  exact e)
 refine⟨rfl,x, ?_,hm, ?_⟩
 ·have:=congrArg List.length hx
  rw[cu_len]at this
  simpa[hn] using this.symm
 ·rw[<-hx]
theorem returnsIn_and_shaped{H:Type}{enc:TypeId × Value->H}{a:Assume}{C:Checked}{os:Os}{f:FuncId}{fn:Func}{s:ChangeSpec}{conds:List PathCond}{apart fresh handsOn again:Bool}{X:World->Array Value->Prop}
  (hX:∀ (w w':World) (args:Array Value),w.heap=w'.heap->X w args->X w' args)
  (own:ownKnob C.prog.godebug=none) (started:os.Started) (noInit:C.prog.inits.idxOf? f=none) (hfn:C.prog.funcs[f]? = some fn)
  (witness:∃ (w:World) (tape:Tape) (i:Input),w.os=os/\(w.forCall tape i).Shaped C.prog/\i.vars=[]/\Input.okWide C.prog (w.forCall tape i) .any w.heap.size f i /\
   ((s.pre enc C.prog fn conds apart (w.forCall tape i).memory i.args/\X (w.forCall tape i).memory i.args)/\sizedMet enc C.prog fn (OpenSpec.ofChange s) apart (w.forCall tape i).memory i.args)/\a.holds C.prog (lone (Frame.enter C.prog f i.args .normal) [] (w.forCall tape i)))
  (contract:∀ (W:World) (base:Nat) (args:Array Value) (ds gs:List (DataW H)) (before:List MemPlace),
   (∀ (j:Nat) t v,fn.params[j]? = some t->args[j]? = some v->Value.okWide C.prog W .any base t v) ->
   DataW.Whole enc C.prog fn.params.toList s.vars apart W args.toList ds gs before ->
   conds.all (PathCond.test C.prog ⟨fn.params.toList,ds,s.plain.varTypes C.prog,gs⟩)=true ->
   (DataW.weightsEach C.prog (fn.params.toList++s.plain.varTypes C.prog) (ds++gs)).all (·<=reachBytes)=true->X W args->W.ShapedOpen C.prog ->
   a.holds C.prog (lone (Frame.enter C.prog f args .normal) [] W) ->
   Calls C.prog f args W fun e W' => ∃ v,e = .returned v/\s.post enc C.prog fn apart fresh handsOn again W args v W') :
  ReturnsInHanded a C os f .any (fun w args=>(s.pre enc C.prog fn conds apart w args/\X w args)/\sizedMet enc C.prog fn (OpenSpec.ofChange s) apart w args) (s.post enc C.prog fn apart fresh handsOn again):=by
 refine returnsInHanded_of_calls own started noInit witness ?_
 intro w tape i _ hsh _ hok hpre hholds
 obtain⟨_,_,_,fn',hfn',_,_,_,_,hval⟩:=hok
 obtain rfl:fn'=fn:=Option.some.inj (hfn'.symm.trans hfn)
 obtain⟨⟨⟨ds,gs,before,hw,hc⟩,hx⟩,hz⟩:=hpre
 refine (contract _ w.heap.size i.args ds gs before hval (DataW.Whole.of_heap (w':=w.forCall tape i) (by rfl) hw) hc (hz.weights hw) (hX _ _ _ (by rfl) hx) hsh hholds).mono fun e W' h => ?_
 obtain⟨v,rfl,hp⟩:=h
 exact ChangeSpec.post_blind hp
end Go.Proofs.YtediahdedmkehaaGreatDoor.Sx
