/- ScrapeReturns: THE DOOR, THE ROW. Own work of the verifier. -/
import Derived.Test.YtfkbjdgbpenflaaGreatDoorWCB
import Derived.Test.YtfkbjdgbpenflaaGreatDoorWCD
import Derived.Test.YtfkbjdgbpenflaaGreatDoorRows
import Derived.ProofKit
import Derived.OpenShut
import Derived.LaidMore
import Derived.Lay
import Derived.Lib.LaidTab
import Derived.Deep.Slices
import Derived.SizedLaws
import Derived.Carry
import Derived.LaidOnce
import Derived.HandedShaped
import Derived.Shelf.Vars
import Derived.SevenTiedAt
import Derived.Stop.Joined
set_option maxRecDepth 100000
namespace Go.Proofs.YtfkbjdgbpenflaaGreatDoor
open Go.ChangeShapes Go.WideShapes Go.ChangeAt Go.RowKit
theorem xl_own:ownKnob Tryz.prog.godebug=none:=by kernel_rfl
abbrev xl_laids:List (String × DataW Unit):=[("math/bits.deBruijn32tab",Rows.laid_math_bits_deBruijn32tab),("math/bits.deBruijn64tab",Rows.laid_math_bits_deBruijn64tab),("internal/strconv.float32info",Rows.laid_internal_strconv_float32info),("internal/strconv.float64info",Rows.laid_internal_strconv_float64info),("internal/strconv.optimize",Rows.laid_internal_strconv_optimize),("internal/strconv.powtab",Rows.laid_internal_strconv_powtab),("internal/strconv.float64pow10",Rows.laid_internal_strconv_float64pow10),("internal/strconv.float32pow10",Rows.laid_internal_strconv_float32pow10),("internal/strconv.uint64pow10",Rows.laid_internal_strconv_uint64pow10),("strconv.ErrRange",Rows.laid_strconv_ErrRange),("strconv.ErrSyntax",Rows.laid_strconv_ErrSyntax),("internal/strconv.leftcheats",Rows.laid_internal_strconv_leftcheats),("internal/strconv.pow10Tab",Rows.laid_internal_strconv_pow10Tab)]
theorem xl_at {P:Program} {w:World}:∀ (l:List (String × DataW Unit)) (ps:List MemPlace),DataW.LaidVars P w l ps→∀ n d,(n,d) ∈ l →
  ∃ g t cs fuel p,P.globalNamed n=some g∧(P.globals[g]?).map (·.type)=some t∧w.var? P n=some cs∧DataW.trod (fun _=>()) P w 0 (fun _=>true) false fuel t cs.toList=some (d,p)
 | [],_,_,_,_,h=>by cases h
 | (m,e)::r,ps,hl,n,d,h=>by
  obtain ⟨g,t,cs,fuel,p,q,h1,h2,h3,h4,h5,_⟩:=hl
  rcases List.mem_cons.1 h with h | h
  ·cases h;exact ⟨g,t,cs,fuel,p,h1,h2,h3,h4⟩
  ·exact xl_at r q h5 n d h
theorem xl_tab {W:World} (h:laidMetH Tryz.prog xl_laids W):Wi.Tab W:=by
 rw [MakeChecks.laidMetH_plain _ _ _ (by kernel_rfl)] at h
 obtain ⟨ps,hl,_,_⟩:=h
 obtain ⟨g,t,cs,fuel,p,hg,ht,hv,hd⟩:=xl_at _ _ hl "internal/strconv.uint64pow10" Rows.laid_internal_strconv_uint64pow10 (by simp)
 obtain rfl:=Option.some.inj ((show Tryz.prog.globalNamed "internal/strconv.uint64pow10"=some 1 by kernel_rfl).symm.trans hg)
 obtain rfl:=Option.some.inj ((show (Tryz.prog.globals[1]?).map (·.type)=some 173 by kernel_rfl).symm.trans ht)
 rw [show (Rows.laid_internal_strconv_uint64pow10:DataW Unit)=Lib.tabData .u64 Lib.pow10Tab from by kernel_rfl] at hd
 have hc:=Lib.cells_of_tab Tryz.underlying173 Tryz.underlying23 (by kernel_rfl) (by kernel_rfl) hd
 show Lib.TabIs _ _ _ _ _
 unfold Lib.TabIs
 rw [hv,← hc]
theorem xl_met (os:Os) (args:Array Value):laidMetH Tryz.prog xl_laids ((World.laidAll Tryz.prog os xl_laids).forCall (fun _ _=>0) ⟨#[],args,[]⟩).memory:=by
 rw [MakeChecks.laidMetH_plain _ _ _ (by kernel_rfl)];exact laidMet_laidAll _ (by kernel_rfl) (by kernel_rfl)
theorem xl_shaped (os:Os) (args:Array Value):((World.laidAll Tryz.prog os xl_laids).forCall (fun _ _=>0) ⟨#[],args,[]⟩).Shaped Tryz.prog:=World.shaped_of_ZipB (by kernel_rfl) (by kernel_rfl)
theorem xw_shaped {H:Type} {enc:TypeId × Value→H} {a:Assume} {C:Checked} {os:Os} {f:FuncId} {fn:Func} {s:ChangeSpec} {conds:List PathCond} {apart fresh handsOn again:Bool} {X:World→Array Value→Prop}
  (hX:∀ (w w':World) (args:Array Value),w.heap=w'.heap→X w args→X w' args)
  (own:ownKnob C.prog.godebug=none) (started:os.Started) (noInit:C.prog.inits.idxOf? f=none) (hfn:C.prog.funcs[f]? =some fn)
  (witness:∃ (w:World) (tape:Tape) (i:Input),w.os=os∧(w.forCall tape i).Shaped C.prog∧i.vars=[]∧Input.okWide C.prog (w.forCall tape i) .any w.heap.size f i ∧
   ((s.pre enc C.prog fn conds apart (w.forCall tape i).memory i.args∧X (w.forCall tape i).memory i.args)∧sizedMet enc C.prog fn (OpenSpec.ofChange s) apart (w.forCall tape i).memory i.args)∧a.holds C.prog (lone (Frame.enter C.prog f i.args .normal) [] (w.forCall tape i)))
  (contract:∀ (W:World) (base:Nat) (args:Array Value) (ds gs:List (DataW H)) (before:List MemPlace),
   (∀ (j:Nat) t v,fn.params[j]? =some t→args[j]? =some v→Value.okWide C.prog W .any base t v) →
   DataW.Whole enc C.prog fn.params.toList s.vars apart W args.toList ds gs before →
   conds.all (PathCond.test C.prog ⟨fn.params.toList,ds,s.plain.varTypes C.prog,gs⟩)=true →
   (DataW.weightsEach C.prog (fn.params.toList++s.plain.varTypes C.prog) (ds++gs)).all (·≤reachBytes)=true→X W args→W.ShapedOpen C.prog →
   a.holds C.prog (lone (Frame.enter C.prog f args .normal) [] W) →
   Calls C.prog f args W fun e W'=>∃ v,e=.returned v∧s.post enc C.prog fn apart fresh handsOn again W args v W') :
  ReturnsInHanded a C os f .any (fun w args=>(s.pre enc C.prog fn conds apart w args∧X w args)∧sizedMet enc C.prog fn (OpenSpec.ofChange s) apart w args) (s.post enc C.prog fn apart fresh handsOn again):=by
 refine returnsInHanded_of_calls own started noInit witness ?_
 intro w tape i _ hsh _ hok hpre hholds
 obtain ⟨_,_,_,fn',hfn',_,_,_,_,hval⟩:=hok
 have e:fn'=fn:=Option.some.inj (hfn'.symm.trans hfn)
 subst e
 obtain ⟨⟨⟨ds,gs,before,hw,hc⟩,hx⟩,hz⟩:=hpre
 have hw':=DataW.Whole.of_heap (w':=w.forCall tape i) (by rfl) hw
 refine (contract (w.forCall tape i) w.heap.size i.args ds gs before hval hw' hc (hz.weights hw) (hX _ _ _ (by rfl) hx) hsh hholds).mono fun e W' ⟨v,he,hp⟩=>?_
 subst he
 exact ChangeSpec.post_blind hp
theorem xw_most {W:World} (h:W.ShapedOpen Tryz.prog):∃ m,W.cell? ⟨2,0,none⟩=some (.int .i64 m) :=
 cell_of_shapedOpen_int (t:=3) (zero:=#[.int .i64 0]) h (of_decide_eq_true (by kernel_rfl)) (by kernel_rfl) rfl (by kernel_rfl) (by kernel_rfl) Tryz.underlying3
theorem xw_cell {W:World} {n:String} {g:Nat} {cs:Array Value} (hg:Tryz.prog.globalNamed n=some g) (hv:W.var? Tryz.prog n=some cs) (i:Nat) (v:Value) (h:((cs.toList.drop i).take 1)=[v]):W.cell? ⟨g,i,none⟩=some v:=by
 rw [World.var?_cell hg hv i]
 have h0:((cs.toList.drop i).take 1)[0]? =some v:=by rw [h];rfl
 simpa using h0
theorem xw_glob {W:World} (h:laidMetH Tryz.prog xl_laids W):Rl.Glob W:=by
 rw [MakeChecks.laidMetH_plain _ _ _ (by kernel_rfl)] at h
 obtain ⟨ps,hl,_,_⟩:=h
 refine ⟨?_,?_,?_,?_⟩
 ·obtain ⟨g,t,cs,fuel,p,hg,ht,hv,hd⟩:=xl_at _ _ hl "internal/strconv.pow10Tab" Rows.laid_internal_strconv_pow10Tab (by simp)
  obtain rfl:=Option.some.inj ((show Tryz.prog.globalNamed "internal/strconv.pow10Tab"=some 10 by kernel_rfl).symm.trans hg)
  obtain rfl:=Option.some.inj ((show (Tryz.prog.globals[10]?).map (·.type)=some 270 by kernel_rfl).symm.trans ht)
  obtain ⟨xs,m,_,ex,_,hlen,hel⟩:=DataW.trod_array Tryz.underlying270 hd
  have c2:Tryz.prog.cellsOf 269=2:=by kernel_rfl
  have c1:Tryz.prog.cellsOf 23=1:=by kernel_rfl
  intro i hi
  have hE:=hel i hi
  rw [c2,List.getElem?_eq_getElem (by omega)] at hE
  obtain ⟨y0,y1,n,e0,_,h0,h1⟩:=trod_struct2 Tryz.underlying269 hE
  obtain ⟨z0,f0,g0,_⟩:=DataW.trod_int Tryz.underlying23 h0
  obtain ⟨z1,f1,g1,_⟩:=DataW.trod_int Tryz.underlying23 h1
  have e3:(xs.map (·.1))=Go.Pinned.pow10Rows.map fun x=>(.agg [.lit (.int .u64 x.1),.lit (.int .u64 x.2)]:DataW Unit):=(DataW.agg.inj (Prod.mk.inj ex).1).symm
  have hl:Go.Pinned.pow10Rows.length=696:=by kernel_rfl
  have e4:(xs.map (·.1))[i]? =(Go.Pinned.pow10Rows.map fun x=>(.agg [.lit (.int .u64 x.1),.lit (.int .u64 x.2)]:DataW Unit))[i]?:=by rw [e3]
  rw [List.getElem?_map,List.getElem?_map,List.getElem?_eq_getElem (by omega:i < xs.length),List.getElem?_eq_getElem (by omega:i < Go.Pinned.pow10Rows.length),e0,g0,g1] at e4
  simp only [Option.map_some,Option.some.injEq,DataW.agg.injEq,List.cons.injEq,DataW.lit.injEq,Lit.int.injEq,true_and,and_true] at e4
  have hD:Go.Pinned.pow10Rows.getD i (0,0)=Go.Pinned.pow10Rows[i]'(by omega):=by rw [List.getD,List.getElem?_eq_getElem (by omega:i < Go.Pinned.pow10Rows.length)];rfl
  have q0:z0=(Rl.tabHi i:Int):=by unfold Rl.tabHi;rw [hD];exact e4.1
  have q1:z1=(Rl.tabLo i:Int):=by unfold Rl.tabLo;rw [hD];exact e4.2
  rw [← q0,← q1]
  refine ⟨xw_cell hg hv _ _ ?_,xw_cell hg hv _ _ ?_⟩
  ·rw [c1] at f0
   simpa [List.take_take,List.drop_take] using f0
  ·rw [c1] at f1
   simpa [List.take_take,List.drop_take,List.drop_drop,Nat.add_comm] using f1
 ·obtain ⟨g,t,cs,fuel,p,hg,ht,hv,hd⟩:=xl_at _ _ hl "internal/strconv.uint64pow10" Rows.laid_internal_strconv_uint64pow10 (by simp)
  obtain rfl:=Option.some.inj ((show Tryz.prog.globalNamed "internal/strconv.uint64pow10"=some 1 by kernel_rfl).symm.trans hg)
  obtain rfl:=Option.some.inj ((show (Tryz.prog.globals[1]?).map (·.type)=some 173 by kernel_rfl).symm.trans ht)
  rw [show (Rows.laid_internal_strconv_uint64pow10:DataW Unit)=Lib.tabData .u64 Lib.pow10Tab from by kernel_rfl] at hd
  have hc:=Lib.cells_of_tab Tryz.underlying173 Tryz.underlying23 (by kernel_rfl) (by kernel_rfl) hd
  show Lib.TabIs _ _ _ _ _
  unfold Lib.TabIs
  rw [hv,← hc]
 ·obtain ⟨g,t,cs,fuel,p,hg,ht,hv,hd⟩:=xl_at _ _ hl "internal/strconv.optimize" Rows.laid_internal_strconv_optimize (by simp)
  obtain rfl:=Option.some.inj ((show Tryz.prog.globalNamed "internal/strconv.optimize"=some 7 by kernel_rfl).symm.trans hg)
  obtain rfl:=Option.some.inj ((show (Tryz.prog.globals[7]?).map (·.type)=some 4 by kernel_rfl).symm.trans ht)
  obtain ⟨b,e1,e2⟩:=DataW.trod_bool Tryz.underlying4 hd
  have hb:b=true:=by
   have:=(Prod.mk.inj e2).1
   unfold Rows.laid_internal_strconv_optimize at this
   simpa using this.symm
  subst hb
  exact xw_cell hg hv 0 _ (by rw [e1];rfl)
 ·obtain ⟨g,t,cs,fuel,p,hg,ht,hv,hd⟩:=xl_at _ _ hl "internal/strconv.float64info" Rows.laid_internal_strconv_float64info (by simp)
  obtain rfl:=Option.some.inj ((show Tryz.prog.globalNamed "internal/strconv.float64info"=some 13 by kernel_rfl).symm.trans hg)
  obtain rfl:=Option.some.inj ((show (Tryz.prog.globals[13]?).map (·.type)=some 293 by kernel_rfl).symm.trans ht)
  obtain ⟨xs,m,_,ex,_,hlen,hel⟩:=DataW.trod_struct Tryz.underlying293 hd
  have c1:Tryz.prog.cellsOf 170=1:=by kernel_rfl
  have hE:=hel 0 _ rfl
  have hlen3:xs.length=3:=hlen
  rw [List.getElem?_eq_getElem (by omega)] at hE
  obtain ⟨z0,f0,g0,_⟩:=DataW.trod_int Tryz.underlying170 hE
  have e3:(xs.map (·.1))=[.lit (.int .u64 52),.lit (.int .u64 11),.lit (.int .i64 (-1023))]:=(DataW.agg.inj (Prod.mk.inj ex).1).symm
  have e4:(xs.map (·.1))[0]? =some (.lit (.int .u64 52)):=by rw [e3];rfl
  rw [List.getElem?_map,List.getElem?_eq_getElem (by omega:0 < xs.length),g0] at e4
  simp only [Option.map_some,Option.some.injEq,DataW.lit.injEq,Lit.int.injEq,true_and] at e4
  subst e4
  have f0':(cs.toList.drop 0).take (Tryz.prog.cellsOf 170)=[.int .u64 52]:=f0
  rw [c1] at f0'
  exact xw_cell hg hv 0 _ f0'
theorem trod_float {H:Type} {enc:TypeId × Value→H} {P:Program} {w:World} {base:Nat} {spare:Nat→Bool} {held:Bool} {fuel:Nat} {t:TypeId} {cs:List Value} {x:DataW H × List MemPlace} {k:FloatKind} (ht:P.underlying t=some (.float k)) (h:DataW.trod enc P w base spare held fuel t cs=some x):∃ b,cs=[.float k b]∧x=(.lit (.float k b),[]):=by
 cases fuel with
 | zero=>simp [DataW.trod] at h
 | succ n =>
  unfold DataW.trod at h
  rw [ht] at h
  split at h <;> simp_all
theorem spot_none {w:World} {a:Addr} {v:Value} (h:w.cell? a=some v):a.spot=none:=by
 unfold World.cell? at h
 split at h
 ·split at h
  ·cases h
  ·rename_i k
   cases hs:a.spot with
   | none=>rfl
   | some x=>rw [hs] at k;simp at k
 ·cases h
theorem ten_lits:∀ k,k < 23→(Rows.laid_internal_strconv_float64pow10:DataW Unit)=.slice (Rl.tenL.map fun n=>.lit (.float .f64 n)) []:=fun _ _=>by kernel_rfl
theorem ten_of_laid {W:World} (h:laidMetH Tryz.prog xl_laids W):Rl.P10F W:=by
 rw [MakeChecks.laidMetH_plain _ _ _ (by kernel_rfl)] at h
 obtain ⟨ps,hl,_,_⟩:=h
 obtain ⟨g,t,cs,fuel,p,hg,ht,hv,hd⟩:=xl_at _ _ hl "internal/strconv.float64pow10" Rows.laid_internal_strconv_float64pow10 (by simp)
 obtain rfl:=Option.some.inj ((show Tryz.prog.globalNamed "internal/strconv.float64pow10"=some 16 by kernel_rfl).symm.trans hg)
 obtain rfl:=Option.some.inj ((show (Tryz.prog.globals[16]?).map (·.type)=some 310 by kernel_rfl).symm.trans ht)
 rw [ten_lits 0 (by decide)] at hd
 rcases DataW.trod_slice Tryz.underlying310 hd with ⟨_,e⟩ | ⟨a,len,cap,elems,rest,n,_,hcs,ex,_,_,_,hlen,hel,hsp,_⟩
 ·cases (Prod.mk.inj e).1
 ·have e3:=DataW.slice.inj (Prod.mk.inj ex).1
  have e5:elems.length=23:=by have:=congrArg List.length e3.1;simpa [Rl.tenL] using this.symm
  have e6:rest=[]:=by have:=e3.2;simpa using this.symm
  have e7:=(hsp rfl).1
  rw [e6] at e7
  have hcap:cap=23:=by have:(0:Nat)=cap - len:=e7;omega
  have hlen23:len=23:=by omega
  subst hcap hlen23
  have c1:Tryz.prog.cellsOf 43=1:=by kernel_rfl
  have hk:∀ k,k < 23→W.cell? (a.add k)=some (.float .f64 (Rl.tenW k)):=by
   intro k hk
   have hE:=hel k hk
   have q:elems[k]? =some (elems[k]'(by omega)):=List.getElem?_eq_getElem (by omega)
   rw [c1,q] at hE
   obtain ⟨cs1,k1,k2⟩:=Option.bind_eq_some_iff.1 hE
   obtain ⟨b1,r1,r2⟩:=trod_float Tryz.underlying43 k2
   have n1:=(World.cells?_some k1).2.2 0 (by decide)
   rw [r1] at n1
   have m1:W.cell? (a.add (k*1))=some (.float .f64 b1):=n1
   rw [Nat.mul_one] at m1
   have e8:(elems.map (·.1))[k]? =some (.lit (.float .f64 (Rl.tenW k))):=by
    rw [← e3.1,List.getElem?_map]
    have:Rl.tenL[k]? =some (Rl.tenW k):=by
     have hl:k < Rl.tenL.length:=by show k < 23;exact hk
     unfold Rl.tenW
     rw [List.getD_eq_getElem?_getD,List.getElem?_eq_getElem hl]
     rfl
    rw [this]
    rfl
   rw [List.getElem?_map,q,r2] at e8
   simp only [Option.map_some,Option.some.injEq,DataW.lit.injEq,Lit.float.injEq,true_and] at e8
   rw [m1,e8]
  have m0:=hk 0 (by decide)
  have hs:=spot_none m0
  obtain ⟨ab,ao,asp⟩:=a
  have hs:asp=none:=by simpa [Addr.add] using hs
  subst hs
  refine ⟨ab,ao,xw_cell hg hv 0 _ (by rw [hcs];rfl),fun k h=>?_⟩
  have:=hk k h
  rw [Addr.add_lit] at this
  exact this
theorem scrapeReturns_lifted (os:Os) (started:os.Started) (H:Type) (enc:TypeId × Value→H) :
  ReturnsInHanded {} Tryz.checked os 3 .any (fun w args=>(Rows.scrapeReturnsSpec.pre enc Tryz.prog Tryz.f3 [] false w args∧laidMetH Tryz.prog xl_laids w)∧sizedMet enc Tryz.prog Tryz.f3 (OpenSpec.ofChange Rows.scrapeReturnsSpec) false w args)
   (Rows.scrapeReturnsSpec.post enc Tryz.prog Tryz.f3 false true false false):=by
 refine xw_shaped (C:=Tryz.checked) (X:=fun w _=>laidMetH Tryz.prog xl_laids w) (fun _ _ _ hh h=>h.of_heap hh) xl_own started (by kernel_rfl) Tryz.func3
  (ChangeSpec.witness_shaped (enc:=enc) (C:=Tryz.checked) (os:=os) (X:=fun w _=>laidMetH Tryz.prog xl_laids w) false (World.laidAll Tryz.prog os xl_laids) #[.agg #[.int .i64 0,.slice none 0 0,.int .u64 0]] 8 (World.laidAll_os _ _ _) (xl_shaped os _) (by kernel_rfl) (by kernel_rfl) (by kernel_rfl) (xl_met os _)) ?_
 intro W base args ds gs before hval0 hW _ hsz0 hL hSh _
 have hsz:(DataW.weightsEach Tryz.prog (Tryz.f3.params.toList++Rows.scrapeReturnsSpec.plain.varTypes Tryz.prog) (ds++gs)).all (·≤reachBytes)=true:=hsz0
 have hval:∀ (j:Nat) t v,Tryz.f3.params[j]? =some t→args[j]? =some v→Value.okWide Tryz.prog W .any base t v:=hval0
 have hW':=hW
 obtain ⟨p,q,hA0,hV,rfl,hfz,hnd⟩:=hW
 have hA:DataW.TrodAll enc Tryz.prog W 0 (fun _=>true) true Tryz.f3.params.toList args.toList ds p:=hA0
 rw [Tryz.params3] at hA hval hsz
 obtain ⟨v0,d0,rfl,rfl,h0⟩:=trodAll_one hA
 obtain ⟨rfl,rfl⟩:=trodVars_none hV
 clear hA0 hval0 hsz0
 simp only [List.append_nil] at hW'
 have hlt:∀ x ∈ p,x.block < W.heap.size:=fun x hx=>by simpa using hW'.lt x hx
 have hw0:(d0.weights Tryz.prog 25).all (·≤reachBytes)=true:=by
  simp only [List.append_nil,List.cons_append,List.nil_append,DataW.weightsEach,List.all_append,Bool.and_eq_true] at hsz
  exact hsz.1
 have hargs:∀ (W':World),Below W.heap.size W W'→DataW.TrodAll enc Tryz.prog W' 0 (fun b=>decide (b < W.heap.size)) true [25] [v0] [d0] p:=fun W' hn =>
  trodAll_mk1 (Below.trod Do.laidOut (by kernel_rfl) (of_decide_eq_true (by kernel_rfl)) h0 hn (fun x hx=>hlt x hx))
 obtain ⟨s,e1,e2⟩:=Do.open_snap (hval 0 25 v0 rfl rfl) h0 hw0
 refine (Sc.returns_walk s v0 e2 W e1 (xl_tab hL) ⟨⟨xw_glob hL,xw_most hSh⟩,ten_of_laid hL⟩).mono fun e W' ⟨he,hb⟩=>?_
 subst he
 exact ⟨_,rfl,_,_,_,[],_,[],hW',trodAll_mk1 (shut_bool Tryz.underlying4 _),hargs W' hb,rfl,hb.frame _,fun h=>by cases h⟩
end Go.Proofs.YtfkbjdgbpenflaaGreatDoor
