/- RulesOneForm: THE DOOR, THE ROW. Own work of the verifier. -/
import Derived.Test.YtifapjammoahgaaGreatDoorSBS
import Derived.Test.YtifapjammoahgaaGreatDoorRows
import Derived.ProofKit
import Derived.OpenShut
import Derived.LaidMore
import Derived.Lay
import Derived.Lib.LaidTab
import Derived.Deep.Slices
import Derived.SizedLaws
import Derived.Carry
import Derived.LaidOnce
import Derived.HandedShaped
import Derived.Shelf.Vars
import Derived.SevenTiedAt
import Derived.Stop.Joined
import Derived.Test.YtifapjammoahgaaGreatDoorCards
import Derived.Test.YtifapjammoahgaaGreatDoorTie
set_option maxRecDepth 100000
namespace Go.Proofs.YtifapjammoahgaaGreatDoor
open Go.ChangeShapes Go.WideShapes Go.ChangeAt Go.RowKit
theorem xl_own:ownKnob Tryz.prog.godebug=none:=by kernel_rfl
abbrev xl_laids:List (String × DataW Unit):=[("math/bits.deBruijn32tab",Rows.laid_math_bits_deBruijn32tab),("math/bits.deBruijn64tab",Rows.laid_math_bits_deBruijn64tab),("internal/strconv.float32info",Rows.laid_internal_strconv_float32info),("internal/strconv.float64info",Rows.laid_internal_strconv_float64info),("internal/strconv.optimize",Rows.laid_internal_strconv_optimize),("internal/strconv.powtab",Rows.laid_internal_strconv_powtab),("internal/strconv.float64pow10",Rows.laid_internal_strconv_float64pow10),("internal/strconv.float32pow10",Rows.laid_internal_strconv_float32pow10),("internal/strconv.uint64pow10",Rows.laid_internal_strconv_uint64pow10),("strconv.ErrRange",Rows.laid_strconv_ErrRange),("strconv.ErrSyntax",Rows.laid_strconv_ErrSyntax),("gnomon/rules.kinds",Rows.laid_gnomon_rules_kinds),("internal/strconv.leftcheats",Rows.laid_internal_strconv_leftcheats),("internal/strconv.pow10Tab",Rows.laid_internal_strconv_pow10Tab)]
theorem xl_at {P:Program} {w:World}:∀ (l:List (String × DataW Unit)) (ps:List MemPlace),DataW.LaidVars P w l ps→∀ n d,(n,d) ∈ l →
    ∃ g t cs fuel p,P.globalNamed n=some g∧(P.globals[g]?).map (·.type)=some t∧w.var? P n=some cs∧DataW.trod (fun _=>()) P w 0 (fun _=>true) false fuel t cs.toList=some (d,p)
  | [],_,_,_,_,h=>by cases h
  | (m,e)::r,ps,hl,n,d,h=>by
    obtain ⟨g,t,cs,fuel,p,q,h1,h2,h3,h4,h5,_⟩:=hl
    rcases List.mem_cons.1 h with h | h
    · cases h;exact ⟨g,t,cs,fuel,p,h1,h2,h3,h4⟩
    · exact xl_at r q h5 n d h
theorem xl_met (os:Os) (args:Array Value):laidMetH Tryz.prog xl_laids ((World.laidAll Tryz.prog os xl_laids).forCall (fun _ _=>0) ⟨#[],args,[]⟩).memory:=by
  rw [MakeChecks.laidMetH_plain _ _ _ (by kernel_rfl)];exact laidMet_laidAll _ (by kernel_rfl) (by kernel_rfl)
theorem xl_shaped (os:Os) (args:Array Value):((World.laidAll Tryz.prog os xl_laids).forCall (fun _ _=>0) ⟨#[],args,[]⟩).Shaped Tryz.prog:=World.shaped_of_ZipB (by kernel_rfl) (by kernel_rfl)
theorem xw_shaped {H:Type} {enc:TypeId × Value→H} {a:Assume} {C:Checked} {os:Os} {f:FuncId} {fn:Func} {s:ChangeSpec} {conds:List PathCond} {apart fresh handsOn again:Bool} {X:World→Array Value→Prop}
    (hX:∀ (w w':World) (args:Array Value),w.heap=w'.heap→X w args→X w' args)
    (own:ownKnob C.prog.godebug=none) (started:os.Started) (noInit:C.prog.inits.idxOf? f=none) (hfn:C.prog.funcs[f]? =some fn)
    (witness:∃ (w:World) (tape:Tape) (i:Input),w.os=os∧(w.forCall tape i).Shaped C.prog∧i.vars=[]∧Input.okWide C.prog (w.forCall tape i) .any w.heap.size f i ∧
      ((s.pre enc C.prog fn conds apart (w.forCall tape i).memory i.args∧X (w.forCall tape i).memory i.args)∧sizedMet enc C.prog fn (OpenSpec.ofChange s) apart (w.forCall tape i).memory i.args)∧a.holds C.prog (lone (Frame.enter C.prog f i.args .normal) [] (w.forCall tape i)))
    (contract:∀ (W:World) (base:Nat) (args:Array Value) (ds gs:List (DataW H)) (before:List MemPlace),
      (∀ (j:Nat) t v,fn.params[j]? =some t→args[j]? =some v→Value.okWide C.prog W .any base t v) →
      DataW.Whole enc C.prog fn.params.toList s.vars apart W args.toList ds gs before →
      conds.all (PathCond.test C.prog ⟨fn.params.toList,ds,s.plain.varTypes C.prog,gs⟩)=true →
      (DataW.weightsEach C.prog (fn.params.toList++s.plain.varTypes C.prog) (ds++gs)).all (·≤reachBytes)=true→X W args→W.ShapedOpen C.prog →
      a.holds C.prog (lone (Frame.enter C.prog f args .normal) [] W) →
      Calls C.prog f args W fun e W'=>∃ v,e=.returned v∧s.post enc C.prog fn apart fresh handsOn again W args v W') :
    ReturnsInHanded a C os f .any (fun w args=>(s.pre enc C.prog fn conds apart w args∧X w args)∧sizedMet enc C.prog fn (OpenSpec.ofChange s) apart w args) (s.post enc C.prog fn apart fresh handsOn again):=by
  refine returnsInHanded_of_calls own started noInit witness ?_
  intro w tape i _ hsh _ hok hpre hholds
  obtain ⟨_,_,_,fn',hfn',_,_,_,_,hval⟩:=hok
  have e:fn'=fn:=Option.some.inj (hfn'.symm.trans hfn)
  subst e
  obtain ⟨⟨⟨ds,gs,before,hw,hc⟩,hx⟩,hz⟩:=hpre
  have hw':=DataW.Whole.of_heap (w':=w.forCall tape i) (by rfl) hw
  refine (contract (w.forCall tape i) w.heap.size i.args ds gs before hval hw' hc (hz.weights hw) (hX _ _ _ (by rfl) hx) hsh hholds).mono fun e W' ⟨v,he,hp⟩=>?_
  subst he
  exact ChangeSpec.post_blind hp
theorem xw_most {W:World} (h:W.ShapedOpen Tryz.prog):∃ m,W.cell? ⟨3,0,none⟩=some (.int .i64 m) :=
  cell_of_shapedOpen_int (t:=3) (zero:=#[.int .i64 0]) h (of_decide_eq_true (by kernel_rfl)) (by kernel_rfl) rfl (by kernel_rfl) (by kernel_rfl) Tryz.underlying3
theorem xw_cell {W:World} {n:String} {g:Nat} {cs:Array Value} (hg:Tryz.prog.globalNamed n=some g) (hv:W.var? Tryz.prog n=some cs) (i:Nat) (v:Value) (h:((cs.toList.drop i).take 1)=[v]):W.cell? ⟨g,i,none⟩=some v:=by
  rw [World.var?_cell hg hv i]
  have h0:((cs.toList.drop i).take 1)[0]? =some v:=by rw [h];rfl
  simpa using h0
theorem xw_glob {W:World} (h:laidMetH Tryz.prog xl_laids W):Rl.Glob W:=by
  rw [MakeChecks.laidMetH_plain _ _ _ (by kernel_rfl)] at h
  obtain ⟨ps,hl,_,_⟩:=h
  refine ⟨?_,?_,?_,?_⟩
  · obtain ⟨g,t,cs,fuel,p,hg,ht,hv,hd⟩:=xl_at _ _ hl "internal/strconv.pow10Tab" Rows.laid_internal_strconv_pow10Tab (by simp)
    obtain rfl:=Option.some.inj ((show Tryz.prog.globalNamed "internal/strconv.pow10Tab"=some 7 by kernel_rfl).symm.trans hg)
    obtain rfl:=Option.some.inj ((show (Tryz.prog.globals[7]?).map (·.type)=some 231 by kernel_rfl).symm.trans ht)
    obtain ⟨xs,m,_,ex,_,hlen,hel⟩:=DataW.trod_array Tryz.underlying231 hd
    have c2:Tryz.prog.cellsOf 230=2:=by kernel_rfl
    have c1:Tryz.prog.cellsOf 71=1:=by kernel_rfl
    intro i hi
    have hE:=hel i hi
    rw [c2,List.getElem?_eq_getElem (by omega)] at hE
    obtain ⟨y0,y1,n,e0,_,h0,h1⟩:=trod_struct2 Tryz.underlying230 hE
    obtain ⟨z0,f0,g0,_⟩:=DataW.trod_int Tryz.underlying71 h0
    obtain ⟨z1,f1,g1,_⟩:=DataW.trod_int Tryz.underlying71 h1
    have e3:(xs.map (·.1))=Go.Pinned.pow10Rows.map fun x=>(.agg [.lit (.int .u64 x.1),.lit (.int .u64 x.2)]:DataW Unit):=(DataW.agg.inj (Prod.mk.inj ex).1).symm
    have hl:Go.Pinned.pow10Rows.length=696:=by kernel_rfl
    have e4:(xs.map (·.1))[i]? =(Go.Pinned.pow10Rows.map fun x=>(.agg [.lit (.int .u64 x.1),.lit (.int .u64 x.2)]:DataW Unit))[i]?:=by rw [e3]
    rw [List.getElem?_map,List.getElem?_map,List.getElem?_eq_getElem (by omega:i < xs.length),List.getElem?_eq_getElem (by omega:i < Go.Pinned.pow10Rows.length),e0,g0,g1] at e4
    simp only [Option.map_some,Option.some.injEq,DataW.agg.injEq,List.cons.injEq,DataW.lit.injEq,Lit.int.injEq,true_and,and_true] at e4
    have hD:Go.Pinned.pow10Rows.getD i (0,0)=Go.Pinned.pow10Rows[i]'(by omega):=by rw [List.getD,List.getElem?_eq_getElem (by omega:i < Go.Pinned.pow10Rows.length)];rfl
    have q0:z0=(Rl.tabHi i:Int):=by unfold Rl.tabHi;rw [hD];exact e4.1
    have q1:z1=(Rl.tabLo i:Int):=by unfold Rl.tabLo;rw [hD];exact e4.2
    rw [← q0,← q1]
    refine ⟨xw_cell hg hv _ _ ?_,xw_cell hg hv _ _ ?_⟩
    · rw [c1] at f0
      simpa [List.take_take,List.drop_take] using f0
    · rw [c1] at f1
      simpa [List.take_take,List.drop_take,List.drop_drop,Nat.add_comm] using f1
  · obtain ⟨g,t,cs,fuel,p,hg,ht,hv,hd⟩:=xl_at _ _ hl "internal/strconv.uint64pow10" Rows.laid_internal_strconv_uint64pow10 (by simp)
    obtain rfl:=Option.some.inj ((show Tryz.prog.globalNamed "internal/strconv.uint64pow10"=some 6 by kernel_rfl).symm.trans hg)
    obtain rfl:=Option.some.inj ((show (Tryz.prog.globals[6]?).map (·.type)=some 210 by kernel_rfl).symm.trans ht)
    rw [show (Rows.laid_internal_strconv_uint64pow10:DataW Unit)=Lib.tabData .u64 Lib.pow10Tab from by kernel_rfl] at hd
    have hc:=Lib.cells_of_tab Tryz.underlying210 Tryz.underlying71 (by kernel_rfl) (by kernel_rfl) hd
    show Lib.TabIs _ _ _ _ _
    unfold Lib.TabIs
    rw [hv,← hc]
  · obtain ⟨g,t,cs,fuel,p,hg,ht,hv,hd⟩:=xl_at _ _ hl "internal/strconv.optimize" Rows.laid_internal_strconv_optimize (by simp)
    obtain rfl:=Option.some.inj ((show Tryz.prog.globalNamed "internal/strconv.optimize"=some 2 by kernel_rfl).symm.trans hg)
    obtain rfl:=Option.some.inj ((show (Tryz.prog.globals[2]?).map (·.type)=some 4 by kernel_rfl).symm.trans ht)
    obtain ⟨b,e1,e2⟩:=DataW.trod_bool Tryz.underlying4 hd
    have hb:b=true:=by
      have:=(Prod.mk.inj e2).1
      unfold Rows.laid_internal_strconv_optimize at this
      simpa using this.symm
    subst hb
    exact xw_cell hg hv 0 _ (by rw [e1];rfl)
  · obtain ⟨g,t,cs,fuel,p,hg,ht,hv,hd⟩:=xl_at _ _ hl "internal/strconv.float64info" Rows.laid_internal_strconv_float64info (by simp)
    obtain rfl:=Option.some.inj ((show Tryz.prog.globalNamed "internal/strconv.float64info"=some 10 by kernel_rfl).symm.trans hg)
    obtain rfl:=Option.some.inj ((show (Tryz.prog.globals[10]?).map (·.type)=some 248 by kernel_rfl).symm.trans ht)
    obtain ⟨xs,m,_,ex,_,hlen,hel⟩:=DataW.trod_struct Tryz.underlying248 hd
    have c1:Tryz.prog.cellsOf 192=1:=by kernel_rfl
    have hE:=hel 0 _ rfl
    have hlen3:xs.length=3:=hlen
    rw [List.getElem?_eq_getElem (by omega)] at hE
    obtain ⟨z0,f0,g0,_⟩:=DataW.trod_int Tryz.underlying192 hE
    have e3:(xs.map (·.1))=[.lit (.int .u64 52),.lit (.int .u64 11),.lit (.int .i64 (-1023))]:=(DataW.agg.inj (Prod.mk.inj ex).1).symm
    have e4:(xs.map (·.1))[0]? =some (.lit (.int .u64 52)):=by rw [e3];rfl
    rw [List.getElem?_map,List.getElem?_eq_getElem (by omega:0 < xs.length),g0] at e4
    simp only [Option.map_some,Option.some.injEq,DataW.lit.injEq,Lit.int.injEq,true_and] at e4
    subst e4
    have f0':(cs.toList.drop 0).take (Tryz.prog.cellsOf 192)=[.int .u64 52]:=f0
    rw [c1] at f0'
    exact xw_cell hg hv 0 _ f0'
theorem trod_err {H:Type} {enc:TypeId × Value→H} {P:Program} {w:World} {base:Nat} {spare:Nat→Bool} {held:Bool} {fuel:Nat} {t:TypeId} {cs:List Value} {name:String} {d:DataW H} {p:List MemPlace} {ms:Array (String × TypeId)} (ht:P.underlying t=some (.interface ms)) (h:DataW.trod enc P w base spare held fuel t cs=some (.iface name d,p)):∃ u v,cs=[.iface u v]:=by
  cases fuel with
  | zero=>simp [DataW.trod] at h
  | succ n =>
    unfold DataW.trod at h
    rw [ht] at h
    split at h <;> simp_all
theorem errs_of_laid {W:World} (h:laidMetH Tryz.prog xl_laids W):Ru.Errs W:=by
  rw [MakeChecks.laidMetH_plain _ _ _ (by kernel_rfl)] at h
  obtain ⟨ps,hl,_,_⟩:=h
  refine ⟨?_,?_⟩
  · obtain ⟨g,t,cs,fuel,p,hg,ht,hv,hd⟩:=xl_at _ _ hl "strconv.ErrSyntax" Rows.laid_strconv_ErrSyntax (by simp)
    obtain rfl:=Option.some.inj ((show Tryz.prog.globalNamed "strconv.ErrSyntax"=some 4 by kernel_rfl).symm.trans hg)
    obtain rfl:=Option.some.inj ((show (Tryz.prog.globals[4]?).map (·.type)=some 79 by kernel_rfl).symm.trans ht)
    obtain ⟨u,v,hc⟩:=trod_err Tryz.underlying79 hd
    exact ⟨_,xw_cell hg hv 0 (.iface u v) (by rw [hc];rfl),Or.inr ⟨u,v,rfl⟩⟩
  · obtain ⟨g,t,cs,fuel,p,hg,ht,hv,hd⟩:=xl_at _ _ hl "strconv.ErrRange" Rows.laid_strconv_ErrRange (by simp)
    obtain rfl:=Option.some.inj ((show Tryz.prog.globalNamed "strconv.ErrRange"=some 5 by kernel_rfl).symm.trans hg)
    obtain rfl:=Option.some.inj ((show (Tryz.prog.globals[5]?).map (·.type)=some 79 by kernel_rfl).symm.trans ht)
    obtain ⟨u,v,hc⟩:=trod_err Tryz.underlying79 hd
    exact ⟨_,xw_cell hg hv 0 (.iface u v) (by rw [hc];rfl),Or.inr ⟨u,v,rfl⟩⟩
theorem kd_cells_len:Ru.kdA.size=44:=rfl
theorem kd_of_laid {W:World} (h:laidMetH Tryz.prog xl_laids W):Ru.Kd W:=by
  rw [MakeChecks.laidMetH_plain _ _ _ (by kernel_rfl)] at h
  obtain ⟨ps,hl,_,_⟩:=h
  obtain ⟨g,t,cs,fuel,p,hg,ht,hv,hd⟩:=xl_at _ _ hl "gnomon/rules.kinds" Rows.laid_gnomon_rules_kinds (by simp)
  obtain rfl:=Option.some.inj ((show Tryz.prog.globalNamed "gnomon/rules.kinds"=some 0 by kernel_rfl).symm.trans hg)
  obtain rfl:=Option.some.inj ((show (Tryz.prog.globals[0]?).map (·.type)=some 92 by kernel_rfl).symm.trans ht)
  obtain ⟨xs,m,_,ex,hcl,hlen,hel⟩:=DataW.trod_array Tryz.underlying92 hd
  have c2:Tryz.prog.cellsOf 76=2:=by kernel_rfl
  have ci:Tryz.prog.cellsOf 3=1:=by kernel_rfl
  have cs1:Tryz.prog.cellsOf 9=1:=by kernel_rfl
  have c44:Tryz.prog.cellsOf 92=44:=by kernel_rfl
  have e3:(xs.map (·.1))=Ru.kwT.map fun q=>(.agg [.lit (.int .i64 (q.1:Int)),.lit (.string q.2)]:DataW Unit):=(DataW.agg.inj (Prod.mk.inj ex).1).symm.trans (by kernel_rfl)
  have hk:∀ i,i < 22→cs.toList[2*i]? =some (.int .i64 ((Ru.kwA i).1:Int))∧cs.toList[2*i+1]? =some (.string ⟨(Ru.kwA i).2.toArray⟩):=by
    intro i hi
    have hE:=hel i hi
    rw [c2,List.getElem?_eq_getElem (by omega)] at hE
    obtain ⟨y0,y1,n,e0,_,h0,h1⟩:=trod_struct2 Tryz.underlying76 hE
    obtain ⟨z0,f0,g0,_⟩:=DataW.trod_int Tryz.underlying3 h0
    obtain ⟨z1,f1,g1,_⟩:=DataW.trod_string Tryz.underlying9 h1
    have hl:Ru.kwT.length=22:=rfl
    have e4:(xs.map (·.1))[i]? =(Ru.kwT.map fun q=>(.agg [.lit (.int .i64 (q.1:Int)),.lit (.string q.2)]:DataW Unit))[i]?:=by rw [e3]
    rw [List.getElem?_map,List.getElem?_map,List.getElem?_eq_getElem (by omega:i < xs.length),List.getElem?_eq_getElem (by omega:i < Ru.kwT.length),e0,g0,g1] at e4
    simp only [Option.map_some,Option.some.injEq,DataW.agg.injEq,List.cons.injEq,DataW.lit.injEq,Lit.int.injEq,Lit.string.injEq,true_and,and_true] at e4
    have hD:Ru.kwA i=Ru.kwT[i]'(by omega):=by unfold Ru.kwA;rw [List.getD,List.getElem?_eq_getElem (by omega:i < Ru.kwT.length)];rfl
    rw [hD,← e4.1,← e4.2]
    rw [ci] at f0
    rw [cs1] at f1
    constructor
    · have:=congrArg (fun l:List Value=>l[0]?) f0
      simpa [List.getElem?_take,List.getElem?_drop,Nat.mul_comm] using this
    · have:=congrArg (fun l:List Value=>l[0]?) f1
      simpa [List.getElem?_take,List.getElem?_drop,Nat.mul_comm] using this
  have hcs:cs=Ru.kdA:=by
    apply Array.ext'
    apply List.ext_getElem?
    intro j
    by_cases hj:j < 44
    · obtain ⟨i,hi⟩:∃ i,i=j / 2:=⟨_,rfl⟩
      obtain ⟨k0,k1⟩:=hk i (by omega)
      obtain ⟨a0,a1⟩:=Ru.kdA_at i (by omega)
      by_cases hp:j % 2=0
      · rw [show j=2*i by omega,k0,← a0,Array.getElem?_toList]
      · rw [show j=2*i+1 by omega,k1,← a1,Array.getElem?_toList]
    · rw [List.getElem?_eq_none (by rw [hcl,c44];omega),List.getElem?_eq_none (by show Ru.kdA.toList.length≤j;rw [Array.length_toList,kd_cells_len];omega)]
  unfold World.var? at hv
  rw [hg] at hv
  simp only [Option.bind_some] at hv
  split at hv
  · rename_i cs' t' fr' he
    cases hv
    rw [hcs] at he
    exact ⟨_,_,he⟩
  · cases hv
theorem env_of {W:World} (h:laidMetH Tryz.prog xl_laids W) (hS:W.ShapedOpen Tryz.prog):Ru.Env W:=⟨kd_of_laid h,errs_of_laid h,⟨xw_glob h,xw_most hS⟩⟩
theorem trod_float {H:Type} {enc:TypeId × Value→H} {P:Program} {w:World} {base:Nat} {spare:Nat→Bool} {held:Bool} {fuel:Nat} {t:TypeId} {cs:List Value} {x:DataW H × List MemPlace} {k:FloatKind} (ht:P.underlying t=some (.float k)) (h:DataW.trod enc P w base spare held fuel t cs=some x):∃ b,cs=[.float k b]∧x=(.lit (.float k b),[]):=by
  cases fuel with
  | zero=>simp [DataW.trod] at h
  | succ n =>
    unfold DataW.trod at h
    rw [ht] at h
    split at h <;> simp_all
theorem spot_none {w:World} {a:Addr} {v:Value} (h:w.cell? a=some v):a.spot=none:=by
  unfold World.cell? at h
  split at h
  · split at h
    · cases h
    · rename_i k
      cases hs:a.spot with
      | none=>rfl
      | some x=>rw [hs] at k;simp at k
  · cases h
theorem ten_lits:∀ k,k < 23→(Rows.laid_internal_strconv_float64pow10:DataW Unit)=.slice (Rl.tenL.map fun n=>.lit (.float .f64 n)) []:=fun _ _=>by kernel_rfl
theorem ten_of_laid {W:World} (h:laidMetH Tryz.prog xl_laids W):Rl.P10F W:=by
  rw [MakeChecks.laidMetH_plain _ _ _ (by kernel_rfl)] at h
  obtain ⟨ps,hl,_,_⟩:=h
  obtain ⟨g,t,cs,fuel,p,hg,ht,hv,hd⟩:=xl_at _ _ hl "internal/strconv.float64pow10" Rows.laid_internal_strconv_float64pow10 (by simp)
  obtain rfl:=Option.some.inj ((show Tryz.prog.globalNamed "internal/strconv.float64pow10"=some 15 by kernel_rfl).symm.trans hg)
  obtain rfl:=Option.some.inj ((show (Tryz.prog.globals[15]?).map (·.type)=some 266 by kernel_rfl).symm.trans ht)
  rw [ten_lits 0 (by decide)] at hd
  rcases DataW.trod_slice Tryz.underlying266 hd with ⟨_,e⟩ | ⟨a,len,cap,elems,rest,n,_,hcs,ex,_,_,_,hlen,hel,hsp,_⟩
  · cases (Prod.mk.inj e).1
  · have e3:=DataW.slice.inj (Prod.mk.inj ex).1
    have e5:elems.length=23:=by have:=congrArg List.length e3.1;simpa [Rl.tenL] using this.symm
    have e6:rest=[]:=by have:=e3.2;simpa using this.symm
    have e7:=(hsp rfl).1
    rw [e6] at e7
    have hcap:cap=23:=by have:(0:Nat)=cap - len:=e7;omega
    have hlen23:len=23:=by omega
    subst hcap hlen23
    have c1:Tryz.prog.cellsOf 23=1:=by kernel_rfl
    have hk:∀ k,k < 23→W.cell? (a.add k)=some (.float .f64 (Rl.tenW k)):=by
      intro k hk
      have hE:=hel k hk
      have q:elems[k]? =some (elems[k]'(by omega)):=List.getElem?_eq_getElem (by omega)
      rw [c1,q] at hE
      obtain ⟨cs1,k1,k2⟩:=Option.bind_eq_some_iff.1 hE
      obtain ⟨b1,r1,r2⟩:=trod_float Tryz.underlying23 k2
      have n1:=(World.cells?_some k1).2.2 0 (by decide)
      rw [r1] at n1
      have m1:W.cell? (a.add (k*1))=some (.float .f64 b1):=n1
      rw [Nat.mul_one] at m1
      have e8:(elems.map (·.1))[k]? =some (.lit (.float .f64 (Rl.tenW k))):=by
        rw [← e3.1,List.getElem?_map]
        have:Rl.tenL[k]? =some (Rl.tenW k):=by
          have hl:k < Rl.tenL.length:=by show k < 23;exact hk
          unfold Rl.tenW
          rw [List.getD_eq_getElem?_getD,List.getElem?_eq_getElem hl]
          rfl
        rw [this]
        rfl
      rw [List.getElem?_map,q,r2] at e8
      simp only [Option.map_some,Option.some.injEq,DataW.lit.injEq,Lit.float.injEq,true_and] at e8
      rw [m1,e8]
    have m0:=hk 0 (by decide)
    have hs:=spot_none m0
    obtain ⟨ab,ao,asp⟩:=a
    have hs:asp=none:=by simpa [Addr.add] using hs
    subst hs
    refine ⟨ab,ao,xw_cell hg hv 0 _ (by rw [hcs];rfl),fun k h=>?_⟩
    have:=hk k h
    rw [Addr.add_lit] at this
    exact this
section
open Rl
def powL:List Nat:=[1,3,6,9,13,16,19,23,26]
theorem pow_lits:(Rows.laid_internal_strconv_powtab:DataW Unit)=.slice (powL.map fun (n:Nat)=>.lit (.int .i64 (n:Int))) []:=by kernel_rfl
theorem pow_of_laid {W:World} (h:laidMetH Tryz.prog xl_laids W):∃ b o c,b < W.heap.size∧W.cell? ⟨14,0,none⟩=some (.slice (some ⟨b,o,none⟩) 9 c)∧∀ i,i < 9→W.cell? ⟨b,o+i,none⟩=some (.int .i64 (powN i:Int)):=by
  rw [MakeChecks.laidMetH_plain _ _ _ (by kernel_rfl)] at h
  obtain ⟨ps,hl,_,_⟩:=h
  obtain ⟨g,t,cs,fuel,p,hg,ht,hv,hd⟩:=xl_at _ _ hl "internal/strconv.powtab" Rows.laid_internal_strconv_powtab (by simp)
  obtain rfl:=Option.some.inj ((show Tryz.prog.globalNamed "internal/strconv.powtab"=some 14 by kernel_rfl).symm.trans hg)
  obtain rfl:=Option.some.inj ((show (Tryz.prog.globals[14]?).map (·.type)=some 133 by kernel_rfl).symm.trans ht)
  rw [pow_lits] at hd
  rcases DataW.trod_slice Tryz.underlying133 hd with ⟨_,e⟩ | ⟨a,len,cap,elems,rest,n,_,hcs,ex,_,_,_,hlen,hel,hsp,_⟩
  · cases (Prod.mk.inj e).1
  · have e3:=DataW.slice.inj (Prod.mk.inj ex).1
    have e5:elems.length=9:=by have:=congrArg List.length e3.1;simpa [powL] using this.symm
    have hlen9:len=9:=by omega
    subst hlen9
    have c1:Tryz.prog.cellsOf 3=1:=by kernel_rfl
    have hk:∀ k,k < 9→W.cell? (a.add k)=some (.int .i64 (powN k:Int)):=by
      intro k hk
      have hE:=hel k hk
      have q:elems[k]? =some (elems[k]'(by omega)):=List.getElem?_eq_getElem (by omega)
      rw [c1,q] at hE
      obtain ⟨cs1,k1,k2⟩:=Option.bind_eq_some_iff.1 hE
      obtain ⟨b1,r1,r2,_⟩:=DataW.trod_int Tryz.underlying3 k2
      have n1:=(World.cells?_some k1).2.2 0 (by decide)
      rw [r1] at n1
      have m1:W.cell? (a.add (k*1))=some (.int .i64 b1):=n1
      rw [Nat.mul_one] at m1
      have e8:(elems.map (·.1))[k]? =some (.lit (.int .i64 (powN k:Int))):=by
        rw [← e3.1,List.getElem?_map]
        have:powL[k]? =some (powN k):=by
          have hl:k < powL.length:=by show k < 9;exact hk
          unfold powN
          rw [List.getD_eq_getElem?_getD]
          show powL[k]? =some ((powL[k]?).getD 0)
          rw [List.getElem?_eq_getElem hl]
          rfl
        rw [this]
        rfl
      rw [List.getElem?_map,q,r2] at e8
      simp only [Option.map_some,Option.some.injEq,DataW.lit.injEq,Lit.int.injEq,true_and] at e8
      rw [m1,e8]
    have m0:=hk 0 (by decide)
    have hs:=spot_none m0
    obtain ⟨ab,ao,asp⟩:=a
    have hs:asp=none:=by simpa [Addr.add] using hs
    subst hs
    refine ⟨ab,ao,cap,?_,xw_cell hg hv 0 _ (by rw [hcs];rfl),fun k h=>?_⟩
    · rw [Addr.add_lit] at m0;exact lt_of_cell m0
    · have:=hk k h
      rw [Addr.add_lit] at this
      exact this
theorem cheat_lits:(Rows.laid_internal_strconv_leftcheats:DataW Unit)=.slice (Go.Pinned.cheatRows.map fun x=>.agg [.lit (.int .i64 x.1),.lit (.string x.2)]) []:=rfl
theorem cheat_of_laid {W:World} (h:laidMetH Tryz.prog xl_laids W):CheatB W.heap.size W:=by
  rw [MakeChecks.laidMetH_plain _ _ _ (by kernel_rfl)] at h
  obtain ⟨ps,hl,_,_⟩:=h
  obtain ⟨g,t,cs,fuel,p,hg,ht,hv,hd⟩:=xl_at _ _ hl "internal/strconv.leftcheats" Rows.laid_internal_strconv_leftcheats (by simp)
  obtain rfl:=Option.some.inj ((show Tryz.prog.globalNamed "internal/strconv.leftcheats"=some 8 by kernel_rfl).symm.trans hg)
  obtain rfl:=Option.some.inj ((show (Tryz.prog.globals[8]?).map (·.type)=some 238 by kernel_rfl).symm.trans ht)
  rw [cheat_lits] at hd
  rcases DataW.trod_slice Tryz.underlying238 hd with ⟨_,e⟩ | ⟨a,len,cap,elems,rest,n,_,hcs,ex,_,_,_,hlen,hel,hsp,_⟩
  · cases (Prod.mk.inj e).1
  · have e3:=DataW.slice.inj (Prod.mk.inj ex).1
    have hr:Go.Pinned.cheatRows.length=61:=by kernel_rfl
    have e5:elems.length=61:=by have:=congrArg List.length e3.1;rw [List.length_map,List.length_map,hr] at this;exact this.symm
    have hlen61:len=61:=by omega
    subst hlen61
    have c2:Tryz.prog.cellsOf 237=2:=by kernel_rfl
    have c1:Tryz.prog.cellsOf 3=1:=by kernel_rfl
    have c1s:Tryz.prog.cellsOf 9=1:=by kernel_rfl
    have hk:∀ k,k < 61→W.cell? (a.add (k*2))=some (.int .i64 (chD k:Int))∧W.cell? ((a.add (k*2)).add 1)=some (.string ⟨(chS k).toArray⟩):=by
      intro k hk
      have hE:=hel k hk
      have q:elems[k]? =some (elems[k]'(by omega)):=List.getElem?_eq_getElem (by omega)
      rw [c2,q] at hE
      obtain ⟨cs1,k1,k2⟩:=Option.bind_eq_some_iff.1 hE
      obtain ⟨xs,m,_,exs,_,hxl,hxe⟩:=DataW.trod_struct Tryz.underlying237 k2
      have hx2:xs.length=2:=hxl
      have hE0:=hxe 0 _ rfl
      have hE1:=hxe 1 _ rfl
      rw [List.getElem?_eq_getElem (by omega)] at hE0 hE1
      obtain ⟨z0,f0,g0,_⟩:=DataW.trod_int Tryz.underlying3 hE0
      obtain ⟨z1,f1,g1,_⟩:=DataW.trod_string Tryz.underlying9 hE1
      have hD:Go.Pinned.cheatRows[k]? =some (chD k,chS k):=by
        have hlt:k < Go.Pinned.cheatRows.length:=by omega
        unfold chD chS
        rw [List.getD_eq_getElem?_getD,List.getElem?_eq_getElem hlt]
        rfl
      have e8:(elems.map (·.1))[k]? =some (.agg [.lit (.int .i64 (chD k:Int)),.lit (.string (chS k))]):=by
        rw [← e3.1,List.getElem?_map,hD]
        rfl
      rw [List.getElem?_map,q,Option.map_some,exs,Option.some.injEq] at e8
      have e9:=DataW.agg.inj e8
      have a0:(xs.map (·.1))[0]? =some (.lit (.int .i64 (chD k:Int))):=by rw [e9];rfl
      have a1:(xs.map (·.1))[1]? =some (.lit (.string (chS k))):=by rw [e9];rfl
      rw [List.getElem?_map,List.getElem?_eq_getElem (by omega:0 < xs.length),g0] at a0
      rw [List.getElem?_map,List.getElem?_eq_getElem (by omega:1 < xs.length),g1] at a1
      simp only [Option.map_some,Option.some.injEq,DataW.lit.injEq,Lit.int.injEq,true_and] at a0
      simp only [Option.map_some,Option.some.injEq,DataW.lit.injEq,Lit.string.injEq] at a1
      have f0':(cs1.drop 0).take (Tryz.prog.cellsOf 3)=[.int .i64 z0]:=f0
      have f1':(cs1.drop 1).take (Tryz.prog.cellsOf 9)=[.string z1]:=f1
      rw [c1] at f0'
      rw [c1s] at f1'
      have n0:=(World.cells?_some k1).2.2 0 (by decide)
      have n1:=(World.cells?_some k1).2.2 1 (by decide)
      have b0:cs1[0]? =some (.int .i64 z0):=by
        have h0:((cs1.drop 0).take 1)[0]? =some (.int .i64 z0):=by rw [f0'];rfl
        simpa using h0
      have b1:cs1[1]? =some (.string z1):=by
        have h0:((cs1.drop 1).take 1)[0]? =some (.string z1):=by rw [f1'];rfl
        simpa using h0
      have hz:z1=⟨(chS k).toArray⟩:=ByteArray.ext (by rw [← a1])
      refine ⟨?_,?_⟩
      · have:(a.add (k*2)).add 0=a.add (k*2):=by simp [Addr.add]
        rw [this] at n0
        rw [n0,b0,a0]
      · rw [n1,b1,hz]
    have m0:=(hk 0 (by decide)).1
    have hs:=spot_none m0
    obtain ⟨ab,ao,asp⟩:=a
    have hs:asp=none:=by simpa [Addr.add] using hs
    subst hs
    have hG0:W.cell? ⟨8,0,none⟩=some (.slice (some ⟨ab,ao,none⟩) 61 cap):=xw_cell hg hv 0 _ (by rw [hcs];rfl)
    refine ⟨lt_of_cell hG0,ab,ao,cap,?_,hG0,fun k h=>?_⟩
    · rw [Addr.add_lit] at m0;exact lt_of_cell m0
    · have:=hk k h
      rw [Addr.add_lit,Addr.add_lit] at this
      exact this
theorem info_of_laid {W:World} (h:laidMetH Tryz.prog xl_laids W):InfoB W.heap.size W:=by
  have hp:=pow_of_laid h
  have hm:=(xw_glob h).m52
  rw [MakeChecks.laidMetH_plain _ _ _ (by kernel_rfl)] at h
  obtain ⟨ps,hl,_,_⟩:=h
  obtain ⟨g,t,cs,fuel,p,hg,ht,hv,hd⟩:=xl_at _ _ hl "internal/strconv.float64info" Rows.laid_internal_strconv_float64info (by simp)
  obtain rfl:=Option.some.inj ((show Tryz.prog.globalNamed "internal/strconv.float64info"=some 10 by kernel_rfl).symm.trans hg)
  obtain rfl:=Option.some.inj ((show (Tryz.prog.globals[10]?).map (·.type)=some 248 by kernel_rfl).symm.trans ht)
  obtain ⟨xs,m,_,ex,_,hlen,hel⟩:=DataW.trod_struct Tryz.underlying248 hd
  have c1:Tryz.prog.cellsOf 192=1:=by kernel_rfl
  have c1i:Tryz.prog.cellsOf 3=1:=by kernel_rfl
  have hE1:=hel 1 _ rfl
  have hE2:=hel 2 _ rfl
  have hlen3:xs.length=3:=hlen
  rw [List.getElem?_eq_getElem (by omega)] at hE1 hE2
  obtain ⟨z1,f1,g1,_⟩:=DataW.trod_int Tryz.underlying192 hE1
  obtain ⟨z2,f2,g2,_⟩:=DataW.trod_int Tryz.underlying3 hE2
  have e3:(xs.map (·.1))=[.lit (.int .u64 52),.lit (.int .u64 11),.lit (.int .i64 (-1023))]:=(DataW.agg.inj (Prod.mk.inj ex).1).symm
  have e4:(xs.map (·.1))[1]? =some (.lit (.int .u64 11)):=by rw [e3];rfl
  have e5:(xs.map (·.1))[2]? =some (.lit (.int .i64 (-1023))):=by rw [e3];rfl
  rw [List.getElem?_map,List.getElem?_eq_getElem (by omega:1 < xs.length),g1] at e4
  rw [List.getElem?_map,List.getElem?_eq_getElem (by omega:2 < xs.length),g2] at e5
  simp only [Option.map_some,Option.some.injEq,DataW.lit.injEq,Lit.int.injEq,true_and] at e4 e5
  subst e4
  subst e5
  have f1':(cs.toList.drop 1).take (Tryz.prog.cellsOf 192)=[.int .u64 11]:=f1
  have f2':(cs.toList.drop 2).take (Tryz.prog.cellsOf 3)=[.int .i64 (-1023)]:=f2
  rw [c1] at f1'
  rw [c1i] at f2'
  obtain ⟨b,o,c,p1,p2,p3⟩:=hp
  exact ⟨lt_of_cell hm,lt_of_cell p2,hm,xw_cell hg hv 1 _ f1',xw_cell hg hv 2 _ f2',b,o,c,p1,p2,p3⟩
theorem blks_of {W:World} (h:W.ShapedOpen Tryz.prog):Blks W:=by
  obtain ⟨ca,h1,_⟩:=h.1 10 #[.int .u64 0,.int .u64 0,.int .i64 0] 248 (of_decide_eq_true (by kernel_rfl)) (by kernel_rfl)
  obtain ⟨cb,h2,_⟩:=h.1 9 #[.int .u64 0,.int .u64 0,.int .i64 0] 248 (of_decide_eq_true (by kernel_rfl)) (by kernel_rfl)
  exact ⟨⟨ca,_,h1⟩,cb,_,h2⟩
end
theorem envF_of {W:World} (h:laidMetH Tryz.prog xl_laids W) (hS:W.ShapedOpen Tryz.prog):Ru.EnvF W:=⟨env_of h hS,ten_of_laid h,Rl.lt_of_cell ((xw_glob h).pow 0 (by decide)).1⟩
theorem envO_of {W:World} (h:laidMetH Tryz.prog xl_laids W) (hS:W.ShapedOpen Tryz.prog):Ru.EnvO W:=⟨envF_of h hS,⟨xw_glob h,ten_of_laid h,cheat_of_laid h,info_of_laid h,(blks_of hS).eq⟩,blks_of hS⟩
theorem rulesOneForm_lifted (os:Os) (started:os.Started) (H:Type) (enc:TypeId × Value→H) :
    ReturnsInHanded {} Tryz.checked os 3 .any (fun w args=>(Rows.rulesOneFormSpec.pre enc Tryz.prog Tryz.f3 [] false w args∧laidMetH Tryz.prog xl_laids w)∧sizedMet enc Tryz.prog Tryz.f3 (OpenSpec.ofChange Rows.rulesOneFormSpec) false w args)
      (Rows.rulesOneFormSpec.post enc Tryz.prog Tryz.f3 false true false false):=by
  refine xw_shaped (C:=Tryz.checked) (X:=fun w _=>laidMetH Tryz.prog xl_laids w) (fun _ _ _ hh h=>h.of_heap hh) xl_own started (by kernel_rfl) Tryz.func3
    (ChangeSpec.witness_shaped (enc:=enc) (C:=Tryz.checked) (os:=os) (X:=fun w _=>laidMetH Tryz.prog xl_laids w) false (World.laidAll Tryz.prog os xl_laids) #[.string ⟨#[]⟩] 8 (World.laidAll_os _ _ _) (xl_shaped os _) (by kernel_rfl) (by kernel_rfl) (by kernel_rfl) (xl_met os _)) ?_
  intro W base args ds gs before hval0 hW _ hsz0 hL hSh _
  have hsz:(DataW.weightsEach Tryz.prog (Tryz.f3.params.toList++Rows.rulesOneFormSpec.plain.varTypes Tryz.prog) (ds++gs)).all (·≤reachBytes)=true:=hsz0
  have hval:∀ (j:Nat) t v,Tryz.f3.params[j]? =some t→args[j]? =some v→Value.okWide Tryz.prog W .any base t v:=hval0
  have hW':=hW
  obtain ⟨p,q,hA0,hV,rfl,hfz,hnd⟩:=hW
  have hA:DataW.TrodAll enc Tryz.prog W 0 (fun _=>true) true Tryz.f3.params.toList args.toList ds p:=hA0
  rw [Tryz.params3] at hA hval hsz
  obtain ⟨v0,d0,rfl,rfl,h0⟩:=trodAll_one hA
  obtain ⟨rfl,rfl⟩:=trodVars_none hV
  obtain ⟨x0,rfl,rfl,rfl,wx0⟩:=Go.ChangeMaps.open_string Tryz.underlying9 (hval 0 9 v0 rfl rfl) h0
  clear hA0 hval0 hsz0 hsz
  simp only [List.append_nil] at hW'
  obtain ⟨l,rfl⟩:∃ l:List UInt8,x0=⟨l.toArray⟩:=⟨x0.data.toList,ByteArray.ext (by simp)⟩
  have hlen:l.length≤9223372036854775807:=by
    have h:(ByteArray.mk l.toArray).size≤9223372036854775807:=Nat.le_trans wx0 (by decide)
    simpa [ByteArray.size] using h
  refine (Ru.oneform_walk W (envO_of hL hSh) l hlen).mono fun e W' ⟨he,hb⟩=>?_
  subst he
  exact ⟨_,rfl,_,_,_,[],[],[],hW',trodAll_mk1 (shut_bool Tryz.underlying4 _),trodAll_mk1 (Go.ChangeMaps.shut_string Tryz.underlying9 wx0),rfl,hb.frame _,fun h=>by cases h⟩
end Go.Proofs.YtifapjammoahgaaGreatDoor
/- RulesOneForm: THE CARD. Own work of the verifier. -/
set_option maxRecDepth 100000
set_option maxHeartbeats 0
namespace Go.Proofs.YtifapjammoahgaaGreatDoor
open Go.ChangeShapes Go.WideShapes Go.ChangeAt Go.RowKit
theorem xm_band {a b:Bool} (ha:a=true) (hb:b=true):(a && b)=true:=by rw [ha,hb];rfl
theorem xm_closed:joinedFacts Tryz.prog 3 Tryz.f3 Rows.rulesOneFormSpec Rows.rulesOneFormRow=true:=by
  unfold joinedFacts
  repeat' (with_reducible refine xm_band ?_ ?_)
  all_goals (as_aux_lemma=>kernel_rfl)
theorem xm_named:Tryz.prog.funcNamed Rows.rulesOneFormRow.func=some 3:=by kernel_rfl
theorem xm_inst:Tryz.f3.isInstance Tryz.prog Rows.rulesOneFormRow.origin Rows.rulesOneFormRow.targs:=of_decide_eq_true (by kernel_rfl)
theorem xm_wrap:Tryz.f3.isWrapper Tryz.prog Rows.rulesOneFormRow.wrapper Rows.rulesOneFormRow.mainSum:=by unfold Func.isWrapper;first | (rw [if_pos (by decide +kernel)];kernel_rfl) | (rw [if_neg (by decide +kernel)];exact ⟨rfl,rfl⟩)
theorem rulesOneForm_holds:Rows.RulesOneFormSaid :=
  OpenClaim.holds_of_wide 3 Tryz.f3 rfl rfl rfl rfl rfl rfl rfl ⟨rfl,rfl,rfl,rfl,rfl⟩ rfl rfl rfl rfl rfl xm_named Tryz.func3 xm_closed xm_inst xm_wrap
    (fun os started H enc _=>rulesOneForm_lifted os started H enc)
theorem rulesOneForm_card:Rows.RulesOneFormCardSaid :=
  Claim7.holds_tied_plain_at .later [] [.data,.data,.widerDeep,.widerDeep,.data,.data,.data,.data,.data,.sentinel,.sentinel,.data,.pinned,.pinned] true Rows.rulesOneFormCard.stood.harness true
    rulesOneForm_holds (fun _ h=>by cases h) (by kernel_rfl) (fun _ h=>by cases h) rulesOneForm_row_tie rfl ⟨rfl,rfl⟩ (by kernel_rfl) rfl
    (fun f fn hf hfn=>by
      obtain rfl:f=3:=Option.some.inj (xm_named.symm.trans hf) |>.symm
      obtain rfl:fn=Tryz.f3:=(Option.some.inj (Tryz.func3.symm.trans hfn)).symm
      exact ⟨by kernel_rfl,fun j t ht=>by
        rw [Tryz.params3] at ht
        have hm:t ∈ [9]:=by simpa using Array.mem_of_getElem? ht
        have hall:([9].all fun u=>!Tryz.prog.wantsStandIn u)=true:=by kernel_rfl
        exact (show Tryz.prog.wantsStandIn t=false by simpa using List.all_eq_true.1 hall t hm)⟩)
    (by kernel_rfl)
end Go.Proofs.YtifapjammoahgaaGreatDoor
