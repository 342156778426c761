/- AlarmRings: THE DOOR, THE ROW. Own work of the verifier. -/
import Derived.Test.YtlgkfeeclgcgbaaGreatDoorZBS
import Derived.Test.YtlgkfeeclgcgbaaGreatDoorRows
import Derived.ProofKit
import Derived.OpenShut
import Derived.LaidMore
import Derived.Lay
import Derived.Lib.LaidTab
import Derived.Deep.Slices
import Derived.SizedLaws
import Derived.Carry
import Derived.LaidOnce
import Derived.HandedShaped
import Derived.Shelf.Vars
import Derived.SevenTiedAt
import Derived.Stop.Joined
import Derived.ChangeSlices
import Derived.Lib.SmallJoins
import Derived.Test.YtlgkfeeclgcgbaaGreatDoorCards
import Derived.Test.YtlgkfeeclgcgbaaGreatDoorTie
set_option maxRecDepth 100000
namespace Go.Proofs.YtlgkfeeclgcgbaaGreatDoor
open Go.ChangeShapes Go.WideShapes Go.ChangeAt Go.RowKit
theorem xl_own:ownKnob Tryz.prog.godebug=none:=by kernel_rfl
abbrev xl_laids:List (String × DataW Unit):=[("math/bits.deBruijn32tab",Rows.laid_math_bits_deBruijn32tab),("math/bits.deBruijn64tab",Rows.laid_math_bits_deBruijn64tab),("internal/strconv.float32info",Rows.laid_internal_strconv_float32info),("internal/strconv.float64info",Rows.laid_internal_strconv_float64info),("internal/strconv.optimize",Rows.laid_internal_strconv_optimize),("internal/strconv.powtab",Rows.laid_internal_strconv_powtab),("internal/strconv.float64pow10",Rows.laid_internal_strconv_float64pow10),("internal/strconv.float32pow10",Rows.laid_internal_strconv_float32pow10),("internal/strconv.uint64pow10",Rows.laid_internal_strconv_uint64pow10),("strconv.ErrRange",Rows.laid_strconv_ErrRange),("strconv.ErrSyntax",Rows.laid_strconv_ErrSyntax),("gnomon/rules.kinds",Rows.laid_gnomon_rules_kinds),("internal/strconv.leftcheats",Rows.laid_internal_strconv_leftcheats),("internal/strconv.pow10Tab",Rows.laid_internal_strconv_pow10Tab)]
theorem xl_at {P:Program} {w:World}:∀ (l:List (String × DataW Unit)) (ps:List MemPlace),DataW.LaidVars P w l ps→∀ n d,(n,d) ∈ l →
  ∃ g t cs fuel p,P.globalNamed n=some g∧(P.globals[g]?).map (·.type)=some t∧w.var? P n=some cs∧DataW.trod (fun _=>()) P w 0 (fun _=>true) false fuel t cs.toList=some (d,p)
 | [],_,_,_,_,h=>by cases h
 | (m,e)::r,ps,hl,n,d,h=>by
  obtain ⟨g,t,cs,fuel,p,q,h1,h2,h3,h4,h5,_⟩:=hl
  rcases List.mem_cons.1 h with h | h
  ·cases h;exact ⟨g,t,cs,fuel,p,h1,h2,h3,h4⟩
  ·exact xl_at r q h5 n d h
theorem xl_met (os:Os) (args:Array Value):laidMetH Tryz.prog xl_laids ((World.laidAll Tryz.prog os xl_laids).forCall (fun _ _=>0) ⟨#[],args,[]⟩).memory:=by
 rw [MakeChecks.laidMetH_plain _ _ _ (by kernel_rfl)];exact laidMet_laidAll _ (by kernel_rfl) (by kernel_rfl)
theorem xl_shaped (os:Os) (args:Array Value):((World.laidAll Tryz.prog os xl_laids).forCall (fun _ _=>0) ⟨#[],args,[]⟩).Shaped Tryz.prog:=World.shaped_of_ZipB (by kernel_rfl) (by kernel_rfl)
theorem xw_shaped {H:Type} {enc:TypeId × Value→H} {a:Assume} {C:Checked} {os:Os} {f:FuncId} {fn:Func} {s:ChangeSpec} {conds:List PathCond} {apart fresh handsOn again:Bool} {X:World→Array Value→Prop}
  (hX:∀ (w w':World) (args:Array Value),w.heap=w'.heap→X w args→X w' args)
  (own:ownKnob C.prog.godebug=none) (started:os.Started) (noInit:C.prog.inits.idxOf? f=none) (hfn:C.prog.funcs[f]? =some fn)
  (witness:∃ (w:World) (tape:Tape) (i:Input),w.os=os∧(w.forCall tape i).Shaped C.prog∧i.vars=[]∧Input.okWide C.prog (w.forCall tape i) .any w.heap.size f i ∧
   ((s.pre enc C.prog fn conds apart (w.forCall tape i).memory i.args∧X (w.forCall tape i).memory i.args)∧sizedMet enc C.prog fn (OpenSpec.ofChange s) apart (w.forCall tape i).memory i.args)∧a.holds C.prog (lone (Frame.enter C.prog f i.args .normal) [] (w.forCall tape i)))
  (contract:∀ (W:World) (base:Nat) (args:Array Value) (ds gs:List (DataW H)) (before:List MemPlace),
   (∀ (j:Nat) t v,fn.params[j]? =some t→args[j]? =some v→Value.okWide C.prog W .any base t v) →
   DataW.Whole enc C.prog fn.params.toList s.vars apart W args.toList ds gs before →
   conds.all (PathCond.test C.prog ⟨fn.params.toList,ds,s.plain.varTypes C.prog,gs⟩)=true →
   (DataW.weightsEach C.prog (fn.params.toList++s.plain.varTypes C.prog) (ds++gs)).all (·≤reachBytes)=true→X W args→W.ShapedOpen C.prog →
   a.holds C.prog (lone (Frame.enter C.prog f args .normal) [] W) →
   Calls C.prog f args W fun e W'=>∃ v,e=.returned v∧s.post enc C.prog fn apart fresh handsOn again W args v W') :
  ReturnsInHanded a C os f .any (fun w args=>(s.pre enc C.prog fn conds apart w args∧X w args)∧sizedMet enc C.prog fn (OpenSpec.ofChange s) apart w args) (s.post enc C.prog fn apart fresh handsOn again):=by
 refine returnsInHanded_of_calls own started noInit witness ?_
 intro w tape i _ hsh _ hok hpre hholds
 obtain ⟨_,_,_,fn',hfn',_,_,_,_,hval⟩:=hok
 have e:fn'=fn:=Option.some.inj (hfn'.symm.trans hfn)
 subst e
 obtain ⟨⟨⟨ds,gs,before,hw,hc⟩,hx⟩,hz⟩:=hpre
 have hw':=DataW.Whole.of_heap (w':=w.forCall tape i) (by rfl) hw
 refine (contract (w.forCall tape i) w.heap.size i.args ds gs before hval hw' hc (hz.weights hw) (hX _ _ _ (by rfl) hx) hsh hholds).mono fun e W' ⟨v,he,hp⟩=>?_
 subst he
 exact ChangeSpec.post_blind hp
theorem xw_most {W:World} (h:W.ShapedOpen Tryz.prog):∃ m,W.cell? ⟨2,0,none⟩=some (.int .i64 m) :=
 cell_of_shapedOpen_int (t:=3) (zero:=#[.int .i64 0]) h (of_decide_eq_true (by kernel_rfl)) (by kernel_rfl) rfl (by kernel_rfl) (by kernel_rfl) Tryz.underlying3
theorem xw_cell {W:World} {n:String} {g:Nat} {cs:Array Value} (hg:Tryz.prog.globalNamed n=some g) (hv:W.var? Tryz.prog n=some cs) (i:Nat) (v:Value) (h:((cs.toList.drop i).take 1)=[v]):W.cell? ⟨g,i,none⟩=some v:=by
 rw [World.var?_cell hg hv i]
 have h0:((cs.toList.drop i).take 1)[0]? =some v:=by rw [h];rfl
 simpa using h0
theorem xw_glob {W:World} (h:laidMetH Tryz.prog xl_laids W):Rl.Glob W:=by
 rw [MakeChecks.laidMetH_plain _ _ _ (by kernel_rfl)] at h
 obtain ⟨ps,hl,_,_⟩:=h
 refine ⟨?_,?_,?_,?_⟩
 ·obtain ⟨g,t,cs,fuel,p,hg,ht,hv,hd⟩:=xl_at _ _ hl "internal/strconv.pow10Tab" Rows.laid_internal_strconv_pow10Tab (by simp)
  obtain rfl:=Option.some.inj ((show Tryz.prog.globalNamed "internal/strconv.pow10Tab"=some 12 by kernel_rfl).symm.trans hg)
  obtain rfl:=Option.some.inj ((show (Tryz.prog.globals[12]?).map (·.type)=some 341 by kernel_rfl).symm.trans ht)
  obtain ⟨xs,m,_,ex,_,hlen,hel⟩:=DataW.trod_array Tryz.underlying341 hd
  have c2:Tryz.prog.cellsOf 340=2:=by kernel_rfl
  have c1:Tryz.prog.cellsOf 35=1:=by kernel_rfl
  intro i hi
  have hE:=hel i hi
  rw [c2,List.getElem?_eq_getElem (by omega)] at hE
  obtain ⟨y0,y1,n,e0,_,h0,h1⟩:=trod_struct2 Tryz.underlying340 hE
  obtain ⟨z0,f0,g0,_⟩:=DataW.trod_int Tryz.underlying35 h0
  obtain ⟨z1,f1,g1,_⟩:=DataW.trod_int Tryz.underlying35 h1
  have e3:(xs.map (·.1))=Go.Pinned.pow10Rows.map fun x=>(.agg [.lit (.int .u64 x.1),.lit (.int .u64 x.2)]:DataW Unit):=(DataW.agg.inj (Prod.mk.inj ex).1).symm
  have hl:Go.Pinned.pow10Rows.length=696:=by kernel_rfl
  have e4:(xs.map (·.1))[i]? =(Go.Pinned.pow10Rows.map fun x=>(.agg [.lit (.int .u64 x.1),.lit (.int .u64 x.2)]:DataW Unit))[i]?:=by rw [e3]
  rw [List.getElem?_map,List.getElem?_map,List.getElem?_eq_getElem (by omega:i < xs.length),List.getElem?_eq_getElem (by omega:i < Go.Pinned.pow10Rows.length),e0,g0,g1] at e4
  simp only [Option.map_some,Option.some.injEq,DataW.agg.injEq,List.cons.injEq,DataW.lit.injEq,Lit.int.injEq,true_and,and_true] at e4
  have hD:Go.Pinned.pow10Rows.getD i (0,0)=Go.Pinned.pow10Rows[i]'(by omega):=by rw [List.getD,List.getElem?_eq_getElem (by omega:i < Go.Pinned.pow10Rows.length)];rfl
  have q0:z0=(Rl.tabHi i:Int):=by unfold Rl.tabHi;rw [hD];exact e4.1
  have q1:z1=(Rl.tabLo i:Int):=by unfold Rl.tabLo;rw [hD];exact e4.2
  rw [← q0,← q1]
  refine ⟨xw_cell hg hv _ _ ?_,xw_cell hg hv _ _ ?_⟩
  ·rw [c1] at f0
   simpa [List.take_take,List.drop_take] using f0
  ·rw [c1] at f1
   simpa [List.take_take,List.drop_take,List.drop_drop,Nat.add_comm] using f1
 ·obtain ⟨g,t,cs,fuel,p,hg,ht,hv,hd⟩:=xl_at _ _ hl "internal/strconv.uint64pow10" Rows.laid_internal_strconv_uint64pow10 (by simp)
  obtain rfl:=Option.some.inj ((show Tryz.prog.globalNamed "internal/strconv.uint64pow10"=some 11 by kernel_rfl).symm.trans hg)
  obtain rfl:=Option.some.inj ((show (Tryz.prog.globals[11]?).map (·.type)=some 331 by kernel_rfl).symm.trans ht)
  rw [show (Rows.laid_internal_strconv_uint64pow10:DataW Unit)=Lib.tabData .u64 Lib.pow10Tab from by kernel_rfl] at hd
  have hc:=Lib.cells_of_tab Tryz.underlying331 Tryz.underlying35 (by kernel_rfl) (by kernel_rfl) hd
  show Lib.TabIs _ _ _ _ _
  unfold Lib.TabIs
  rw [hv,← hc]
 ·obtain ⟨g,t,cs,fuel,p,hg,ht,hv,hd⟩:=xl_at _ _ hl "internal/strconv.optimize" Rows.laid_internal_strconv_optimize (by simp)
  obtain rfl:=Option.some.inj ((show Tryz.prog.globalNamed "internal/strconv.optimize"=some 6 by kernel_rfl).symm.trans hg)
  obtain rfl:=Option.some.inj ((show (Tryz.prog.globals[6]?).map (·.type)=some 4 by kernel_rfl).symm.trans ht)
  obtain ⟨b,e1,e2⟩:=DataW.trod_bool Tryz.underlying4 hd
  have hb:b=true:=by
   have:=(Prod.mk.inj e2).1
   unfold Rows.laid_internal_strconv_optimize at this
   simpa using this.symm
  subst hb
  exact xw_cell hg hv 0 _ (by rw [e1];rfl)
 ·obtain ⟨g,t,cs,fuel,p,hg,ht,hv,hd⟩:=xl_at _ _ hl "internal/strconv.float64info" Rows.laid_internal_strconv_float64info (by simp)
  obtain rfl:=Option.some.inj ((show Tryz.prog.globalNamed "internal/strconv.float64info"=some 7 by kernel_rfl).symm.trans hg)
  obtain rfl:=Option.some.inj ((show (Tryz.prog.globals[7]?).map (·.type)=some 273 by kernel_rfl).symm.trans ht)
  obtain ⟨xs,m,_,ex,_,hlen,hel⟩:=DataW.trod_struct Tryz.underlying273 hd
  have c1:Tryz.prog.cellsOf 226=1:=by kernel_rfl
  have hE:=hel 0 _ rfl
  have hlen3:xs.length=3:=hlen
  rw [List.getElem?_eq_getElem (by omega)] at hE
  obtain ⟨z0,f0,g0,_⟩:=DataW.trod_int Tryz.underlying226 hE
  have e3:(xs.map (·.1))=[.lit (.int .u64 52),.lit (.int .u64 11),.lit (.int .i64 (-1023))]:=(DataW.agg.inj (Prod.mk.inj ex).1).symm
  have e4:(xs.map (·.1))[0]? =some (.lit (.int .u64 52)):=by rw [e3];rfl
  rw [List.getElem?_map,List.getElem?_eq_getElem (by omega:0 < xs.length),g0] at e4
  simp only [Option.map_some,Option.some.injEq,DataW.lit.injEq,Lit.int.injEq,true_and] at e4
  subst e4
  have f0':(cs.toList.drop 0).take (Tryz.prog.cellsOf 226)=[.int .u64 52]:=f0
  rw [c1] at f0'
  exact xw_cell hg hv 0 _ f0'
theorem trod_err {H:Type} {enc:TypeId × Value→H} {P:Program} {w:World} {base:Nat} {spare:Nat→Bool} {held:Bool} {fuel:Nat} {t:TypeId} {cs:List Value} {name:String} {d:DataW H} {p:List MemPlace} {ms:Array (String × TypeId)} (ht:P.underlying t=some (.interface ms)) (h:DataW.trod enc P w base spare held fuel t cs=some (.iface name d,p)):∃ u v,cs=[.iface u v]:=by
 cases fuel with
 | zero=>simp [DataW.trod] at h
 | succ n =>
  unfold DataW.trod at h
  rw [ht] at h
  split at h <;> simp_all
theorem errs_of_laid {W:World} (h:laidMetH Tryz.prog xl_laids W):Ru.Errs W:=by
 rw [MakeChecks.laidMetH_plain _ _ _ (by kernel_rfl)] at h
 obtain ⟨ps,hl,_,_⟩:=h
 refine ⟨?_,?_⟩
 ·obtain ⟨g,t,cs,fuel,p,hg,ht,hv,hd⟩:=xl_at _ _ hl "strconv.ErrSyntax" Rows.laid_strconv_ErrSyntax (by simp)
  obtain rfl:=Option.some.inj ((show Tryz.prog.globalNamed "strconv.ErrSyntax"=some 3 by kernel_rfl).symm.trans hg)
  obtain rfl:=Option.some.inj ((show (Tryz.prog.globals[3]?).map (·.type)=some 215 by kernel_rfl).symm.trans ht)
  obtain ⟨u,v,hc⟩:=trod_err Tryz.underlying215 hd
  exact ⟨_,xw_cell hg hv 0 (.iface u v) (by rw [hc];rfl),Or.inr ⟨u,v,rfl⟩⟩
 ·obtain ⟨g,t,cs,fuel,p,hg,ht,hv,hd⟩:=xl_at _ _ hl "strconv.ErrRange" Rows.laid_strconv_ErrRange (by simp)
  obtain rfl:=Option.some.inj ((show Tryz.prog.globalNamed "strconv.ErrRange"=some 4 by kernel_rfl).symm.trans hg)
  obtain rfl:=Option.some.inj ((show (Tryz.prog.globals[4]?).map (·.type)=some 215 by kernel_rfl).symm.trans ht)
  obtain ⟨u,v,hc⟩:=trod_err Tryz.underlying215 hd
  exact ⟨_,xw_cell hg hv 0 (.iface u v) (by rw [hc];rfl),Or.inr ⟨u,v,rfl⟩⟩
theorem kd_cells_len:Ru.kdA.size=44:=rfl
theorem kd_of_laid {W:World} (h:laidMetH Tryz.prog xl_laids W):Ru.Kd W:=by
 rw [MakeChecks.laidMetH_plain _ _ _ (by kernel_rfl)] at h
 obtain ⟨ps,hl,_,_⟩:=h
 obtain ⟨g,t,cs,fuel,p,hg,ht,hv,hd⟩:=xl_at _ _ hl "gnomon/rules.kinds" Rows.laid_gnomon_rules_kinds (by simp)
 obtain rfl:=Option.some.inj ((show Tryz.prog.globalNamed "gnomon/rules.kinds"=some 0 by kernel_rfl).symm.trans hg)
 obtain rfl:=Option.some.inj ((show (Tryz.prog.globals[0]?).map (·.type)=some 196 by kernel_rfl).symm.trans ht)
 obtain ⟨xs,m,_,ex,hcl,hlen,hel⟩:=DataW.trod_array Tryz.underlying196 hd
 have c2:Tryz.prog.cellsOf 163=2:=by kernel_rfl
 have ci:Tryz.prog.cellsOf 3=1:=by kernel_rfl
 have cs1:Tryz.prog.cellsOf 9=1:=by kernel_rfl
 have c44:Tryz.prog.cellsOf 196=44:=by kernel_rfl
 have e3:(xs.map (·.1))=Ru.kwT.map fun q=>(.agg [.lit (.int .i64 (q.1:Int)),.lit (.string q.2)]:DataW Unit):=(DataW.agg.inj (Prod.mk.inj ex).1).symm.trans (by kernel_rfl)
 have hk:∀ i,i < 22→cs.toList[2*i]? =some (.int .i64 ((Ru.kwA i).1:Int))∧cs.toList[2*i+1]? =some (.string ⟨(Ru.kwA i).2.toArray⟩):=by
  intro i hi
  have hE:=hel i hi
  rw [c2,List.getElem?_eq_getElem (by omega)] at hE
  obtain ⟨y0,y1,n,e0,_,h0,h1⟩:=trod_struct2 Tryz.underlying163 hE
  obtain ⟨z0,f0,g0,_⟩:=DataW.trod_int Tryz.underlying3 h0
  obtain ⟨z1,f1,g1,_⟩:=DataW.trod_string Tryz.underlying9 h1
  have hl:Ru.kwT.length=22:=rfl
  have e4:(xs.map (·.1))[i]? =(Ru.kwT.map fun q=>(.agg [.lit (.int .i64 (q.1:Int)),.lit (.string q.2)]:DataW Unit))[i]?:=by rw [e3]
  rw [List.getElem?_map,List.getElem?_map,List.getElem?_eq_getElem (by omega:i < xs.length),List.getElem?_eq_getElem (by omega:i < Ru.kwT.length),e0,g0,g1] at e4
  simp only [Option.map_some,Option.some.injEq,DataW.agg.injEq,List.cons.injEq,DataW.lit.injEq,Lit.int.injEq,Lit.string.injEq,true_and,and_true] at e4
  have hD:Ru.kwA i=Ru.kwT[i]'(by omega):=by unfold Ru.kwA;rw [List.getD,List.getElem?_eq_getElem (by omega:i < Ru.kwT.length)];rfl
  rw [hD,← e4.1,← e4.2]
  rw [ci] at f0
  rw [cs1] at f1
  constructor
  ·have:=congrArg (fun l:List Value=>l[0]?) f0
   simpa [List.getElem?_take,List.getElem?_drop,Nat.mul_comm] using this
  ·have:=congrArg (fun l:List Value=>l[0]?) f1
   simpa [List.getElem?_take,List.getElem?_drop,Nat.mul_comm] using this
 have hcs:cs=Ru.kdA:=by
  apply Array.ext'
  apply List.ext_getElem?
  intro j
  by_cases hj:j < 44
  ·obtain ⟨i,hi⟩:∃ i,i=j / 2:=⟨_,rfl⟩
   obtain ⟨k0,k1⟩:=hk i (by omega)
   obtain ⟨a0,a1⟩:=Ru.kdA_at i (by omega)
   by_cases hp:j % 2=0
   ·rw [show j=2*i by omega,k0,← a0,Array.getElem?_toList]
   ·rw [show j=2*i+1 by omega,k1,← a1,Array.getElem?_toList]
  ·rw [List.getElem?_eq_none (by rw [hcl,c44];omega),List.getElem?_eq_none (by show Ru.kdA.toList.length≤j;rw [Array.length_toList,kd_cells_len];omega)]
 unfold World.var? at hv
 rw [hg] at hv
 simp only [Option.bind_some] at hv
 split at hv
 ·rename_i cs' t' fr' he
  cases hv
  rw [hcs] at he
  exact ⟨_,_,he⟩
 ·cases hv
theorem env_of {W:World} (h:laidMetH Tryz.prog xl_laids W) (hS:W.ShapedOpen Tryz.prog):Ru.Env W:=⟨kd_of_laid h,errs_of_laid h,⟨xw_glob h,xw_most hS⟩⟩
theorem xl_laidOut:laidOutB Tryz.prog=true:=by kernel_rfl
theorem xl_c1:Tryz.prog.cellsOf 2=1:=by kernel_rfl
theorem xl_cb:Tryz.prog.cellsOf 4=1:=by kernel_rfl
theorem xl_cm:Tryz.prog.cellsOf 32=2:=by kernel_rfl
theorem xl_bm:Tryz.prog.bytesOf 32=16:=by kernel_rfl
section
variable {H:Type} {enc:TypeId × Value→H}
theorem xl_moments {W:World} {base:Nat} {v:Value} {d:DataW H} {pl:List MemPlace} (hv:Value.okWide Tryz.prog W .any base 22 v) (h:DataW.Trod enc Tryz.prog W 0 (fun _=>true) true 22 v d pl)
  (hw:(d.weights Tryz.prog 22).all (·≤reachBytes)=true) :
  ∃ (ao:Option Addr) (b off cap:Nat) (L:List Al.Mo),v=.slice ao L.length cap∧(L≠[]→ao=some ⟨b,off,none⟩) ∧
   (∀ i (hi:i < L.length),W.cell? ⟨b,off+i*2,none⟩=some (.int .i64 L[i].1)∧W.cell? ⟨b,off+i*2+1,none⟩=some (.bool L[i].2))∧L.length≤8796093021952:=by
 obtain ⟨a0,len,cap,rfl⟩:=okWide_slice Tryz.underlying22 hv
 obtain ⟨fuel,hf⟩:=h
 rcases Deep.open_slice Tryz.underlying22 hf with ⟨hcs,_⟩ | ⟨a,len',cap',m,n,D,Pl,hcs,_,hl,hm,hmm,hxx,hx⟩
 ·simp [Value.cells] at hcs
  obtain ⟨rfl,rfl,rfl⟩:=hcs
  exact ⟨none,0,0,0,[],rfl,(fun k=>absurd rfl k),(fun i hi=>by simp at hi),by simp⟩
 ·simp [Value.cells] at hcs
  obtain ⟨rfl,rfl,rfl⟩:=hcs
  simp only [if_true] at hmm
  subst hmm
  obtain ⟨rfl,rfl⟩:=Prod.mk.inj hxx
  have each:∀ i,i < m→∃ s:Al.Mo,W.cell? (a.add (i*2))=some (.int .i64 s.1)∧W.cell? (a.add (i*2+1))=some (.bool s.2):=by
   intro i hi
   obtain ⟨cs',h1,h2⟩:=hx i hi
   rw [xl_cm] at h1
   obtain ⟨_,hlen,hcell⟩:=World.cells?_some h1
   obtain ⟨y0,y1,n,e0,_,g0,g1⟩:=trod_struct2 Tryz.underlying32 h2
   obtain ⟨z0,f0,-,-⟩:=DataW.trod_int Tryz.underlying2 g0
   obtain ⟨z1,f1,-⟩:=DataW.trod_bool Tryz.underlying4 g1
   rw [xl_c1] at f0
   rw [xl_cb] at f1
   match cs',hlen with
   | [w0,w1],_ =>
    simp at f0 f1
    subst f0 f1
    have c0:=hcell 0 (by omega)
    have c1:=hcell 1 (by omega)
    rw [Deep.add_add] at c0 c1
    exact ⟨(z0,z1),by simpa using c0,by simpa using c1⟩
  obtain ⟨f,hf'⟩:=Deep.choose_lt each
  have hlen:((List.range len).map f).length=len:=by simp
  obtain ⟨b,off,spot⟩:=a
  have hs:0 < len→spot=none:=fun k=>by simpa [Addr.add] using World.cell?_spot (hf' 0 (by omega)).1
  refine ⟨some ⟨b,off,spot⟩,b,off,m,(List.range len).map f,by rw [hlen],fun k=>?_,fun i hi=>?_,?_⟩
  ·have:0 < len:=by
    rcases Nat.eq_zero_or_pos len with q | q
    ·exact absurd (by rw [q];rfl) k
    ·exact q
   rw [hs this]
  ·rw [hlen] at hi
   obtain ⟨c0,c1⟩:=hf' i (by omega)
   have e:=hs (by omega)
   subst e
   rw [Addr.add_lit] at c0 c1
   simp only [List.getElem_map,List.getElem_range]
   exact ⟨c0,by rw [← Nat.add_assoc] at c1;exact c1⟩
  ·rw [hlen]
   simp only [DataW.weights,Tryz.underlying22,xl_bm,List.all_cons,Bool.and_eq_true,decide_eq_true_eq,List.length_map,List.length_range] at hw
   have:=hw.1
   unfold reachBytes at this
   omega
end
theorem alarmRings_lifted (os:Os) (started:os.Started) (H:Type) (enc:TypeId × Value→H) :
  ReturnsInHanded {} Tryz.checked os 3 .any (fun w args=>(Rows.alarmRingsSpec.pre enc Tryz.prog Tryz.f3 [] false w args∧laidMetH Tryz.prog xl_laids w)∧sizedMet enc Tryz.prog Tryz.f3 (OpenSpec.ofChange Rows.alarmRingsSpec) false w args)
   (Rows.alarmRingsSpec.post enc Tryz.prog Tryz.f3 false true false false):=by
 refine xw_shaped (C:=Tryz.checked) (X:=fun w _=>laidMetH Tryz.prog xl_laids w) (fun _ _ _ hh h=>h.of_heap hh) xl_own started (by kernel_rfl) Tryz.func3
  (ChangeSpec.witness_shaped (enc:=enc) (C:=Tryz.checked) (os:=os) (X:=fun w _=>laidMetH Tryz.prog xl_laids w) false (World.laidAll Tryz.prog os xl_laids) #[.slice none 0 0,.int .i64 0,.int .i64 0] 8 (World.laidAll_os _ _ _) (xl_shaped os _) (by kernel_rfl) (by kernel_rfl) (by kernel_rfl) (xl_met os _)) ?_
 intro W base args ds gs before hval0 hW _ hsz0 hL hSh _
 have hsz:(DataW.weightsEach Tryz.prog (Tryz.f3.params.toList++Rows.alarmRingsSpec.plain.varTypes Tryz.prog) (ds++gs)).all (·≤reachBytes)=true:=hsz0
 have hval:∀ (j:Nat) t v,Tryz.f3.params[j]? =some t→args[j]? =some v→Value.okWide Tryz.prog W .any base t v:=hval0
 have hW':=hW
 obtain ⟨p,q,hA0,hV,rfl,hfz,hnd⟩:=hW
 have hA:DataW.TrodAll enc Tryz.prog W 0 (fun _=>true) true Tryz.f3.params.toList args.toList ds p:=hA0
 rw [Tryz.params3] at hA hval hsz
 obtain ⟨v0,v1,v2,d0,d1,d2,p0,p1,p2,rfl,rfl,rfl,h0,h1,h2⟩:=trodAll_three hA
 obtain ⟨rfl,rfl⟩:=trodVars_none hV
 clear hA0 hval0 hsz0
 simp only [List.append_nil,List.append_assoc] at hW'
 have hlt:∀ x ∈ p0++(p1++p2),x.block < W.heap.size:=fun x hx=>by simpa using hW'.lt x hx
 have hw0:(d0.weights Tryz.prog 22).all (·≤reachBytes)=true:=by
  simp only [List.append_nil,List.cons_append,List.nil_append,DataW.weightsEach,List.all_append,Bool.and_eq_true] at hsz
  exact hsz.1
 have hargs:∀ (W':World),Below W.heap.size W W'→DataW.TrodAll enc Tryz.prog W' 0 (fun b=>decide (b < W.heap.size)) true [22,2,2] [v0,v1,v2] [d0,d1,d2] (p0++(p1++p2)):=fun W' hn =>
  trodAll_mk3 (Below.trod xl_laidOut (by kernel_rfl) (of_decide_eq_true (by kernel_rfl)) h0 hn (fun x hx=>hlt x (by simp [hx])))
   (Below.trod xl_laidOut (by kernel_rfl) (of_decide_eq_true (by kernel_rfl)) h1 hn (fun x hx=>hlt x (by simp [hx])))
   (Below.trod xl_laidOut (by kernel_rfl) (of_decide_eq_true (by kernel_rfl)) h2 hn (fun x hx=>hlt x (by simp [hx])))
 obtain ⟨ao,b,o,cap,L,e0,a1,a2,a3⟩:=xl_moments (hval 0 22 v0 rfl rfl) h0 hw0
 obtain ⟨lg,e1,_,_,_⟩:=open_int Tryz.underlying2 (hval 1 2 v1 rfl rfl) h1
 obtain ⟨kp,e2,_,_,_⟩:=open_int Tryz.underlying2 (hval 2 2 v2 rfl rfl) h2
 have hwalk:=Al.alrings_walk L ao b o cap lg kp W (env_of hL hSh) a1 a2 a3
 rw [← e0,← e1,← e2] at hwalk
 refine hwalk.mono fun e W' ⟨he,hb⟩=>?_
 subst he
 exact ⟨_,rfl,_,_,_,[],_,[],hW',trodAll_mk1 (shut_bool Tryz.underlying4 _),hargs W' hb,rfl,hb.frame _,fun h=>by cases h⟩
end Go.Proofs.YtlgkfeeclgcgbaaGreatDoor
/- AlarmRings: THE CARD. Own work of the verifier. -/
set_option maxRecDepth 100000
set_option maxHeartbeats 0
namespace Go.Proofs.YtlgkfeeclgcgbaaGreatDoor
open Go.ChangeShapes Go.WideShapes Go.ChangeAt Go.RowKit
theorem xm_band {a b:Bool} (ha:a=true) (hb:b=true):(a && b)=true:=by rw [ha,hb];rfl
theorem xm_closed:joinedFacts Tryz.prog 3 Tryz.f3 Rows.alarmRingsSpec Rows.alarmRingsRow=true:=by
 unfold joinedFacts
 repeat' (with_reducible refine xm_band ?_ ?_)
 all_goals (as_aux_lemma=>kernel_rfl)
theorem xm_named:Tryz.prog.funcNamed Rows.alarmRingsRow.func=some 3:=by kernel_rfl
theorem xm_inst:Tryz.f3.isInstance Tryz.prog Rows.alarmRingsRow.origin Rows.alarmRingsRow.targs:=of_decide_eq_true (by kernel_rfl)
theorem xm_wrap:Tryz.f3.isWrapper Tryz.prog Rows.alarmRingsRow.wrapper Rows.alarmRingsRow.mainSum:=by unfold Func.isWrapper;first | (rw [if_pos (by decide +kernel)];kernel_rfl) | (rw [if_neg (by decide +kernel)];exact ⟨rfl,rfl⟩)
theorem alarmRings_holds:Rows.AlarmRingsSaid :=
 OpenClaim.holds_of_wide 3 Tryz.f3 rfl rfl rfl rfl rfl rfl rfl ⟨rfl,rfl,rfl,rfl,rfl⟩ rfl rfl rfl rfl rfl xm_named Tryz.func3 xm_closed xm_inst xm_wrap
  (fun os started H enc _=>alarmRings_lifted os started H enc)
theorem alarmRings_card:Rows.AlarmRingsCardSaid :=
 Claim7.holds_tied_plain_at .later [] [.data,.data,.widerDeep,.widerDeep,.data,.data,.data,.data,.data,.sentinel,.sentinel,.data,.pinned,.pinned] true Rows.alarmRingsCard.stood.harness true
  alarmRings_holds (fun _ h=>by cases h) (by kernel_rfl) (fun _ h=>by cases h) alarmRings_row_tie rfl ⟨rfl,rfl⟩ (by kernel_rfl) rfl
  (fun f fn hf hfn=>by
   obtain rfl:f=3:=Option.some.inj (xm_named.symm.trans hf) |>.symm
   obtain rfl:fn=Tryz.f3:=(Option.some.inj (Tryz.func3.symm.trans hfn)).symm
   exact ⟨by kernel_rfl,fun j t ht=>by
    rw [Tryz.params3] at ht
    have hm:t ∈ [22,2,2]:=by simpa using Array.mem_of_getElem? ht
    have hall:([22,2,2].all fun u=>!Tryz.prog.wantsStandIn u)=true:=by kernel_rfl
    exact (show Tryz.prog.wantsStandIn t=false by simpa using List.all_eq_true.1 hall t hm)⟩)
  (by kernel_rfl)
end Go.Proofs.YtlgkfeeclgcgbaaGreatDoor
