/- RULES: isTruth. Own work of the verifier. -/
import Derived.Test.YtlgkfeeclgcgbaaGreatDoorZAY
import Derived.OwnWalk
set_option maxRecDepth 100000
namespace Go.Proofs.YtlgkfeeclgcgbaaGreatDoor.Ru
open Go.RowKit Me
abbrev zC:Value:=.agg #[.int .i64 0,.nilIface,.nilIface]
abbrev zJ:Value:=.agg #[.bool false,.nilIface,.nilIface]
abbrev zN:Value:=.agg #[.nilIface]
theorem ta_constant_comparison (p:Value) (W:World):(Instr.typeAssert (.iface 165 p) 124 141 true).run Tryz.prog W=.ok (.tuple #[zC,.bool false]) W:=by kernel_rfl
theorem ta_constant_junction (p:Value) (W:World):(Instr.typeAssert (.iface 165 p) 124 143 true).run Tryz.prog W=.ok (.tuple #[zJ,.bool false]) W:=by kernel_rfl
theorem ta_constant_negation (p:Value) (W:World):(Instr.typeAssert (.iface 165 p) 124 145 true).run Tryz.prog W=.ok (.tuple #[zN,.bool false]) W:=by kernel_rfl
theorem ta_measure_comparison (p:Value) (W:World):(Instr.typeAssert (.iface 168 p) 124 141 true).run Tryz.prog W=.ok (.tuple #[zC,.bool false]) W:=by kernel_rfl
theorem ta_measure_junction (p:Value) (W:World):(Instr.typeAssert (.iface 168 p) 124 143 true).run Tryz.prog W=.ok (.tuple #[zJ,.bool false]) W:=by kernel_rfl
theorem ta_measure_negation (p:Value) (W:World):(Instr.typeAssert (.iface 168 p) 124 145 true).run Tryz.prog W=.ok (.tuple #[zN,.bool false]) W:=by kernel_rfl
theorem ta_calculation_comparison (p:Value) (W:World):(Instr.typeAssert (.iface 166 p) 124 141 true).run Tryz.prog W=.ok (.tuple #[zC,.bool false]) W:=by kernel_rfl
theorem ta_calculation_junction (p:Value) (W:World):(Instr.typeAssert (.iface 166 p) 124 143 true).run Tryz.prog W=.ok (.tuple #[zJ,.bool false]) W:=by kernel_rfl
theorem ta_calculation_negation (p:Value) (W:World):(Instr.typeAssert (.iface 166 p) 124 145 true).run Tryz.prog W=.ok (.tuple #[zN,.bool false]) W:=by kernel_rfl
theorem ta_comparison_comparison (p:Value) (W:World):(Instr.typeAssert (.iface 141 p) 124 141 true).run Tryz.prog W=.ok (.tuple #[p,.bool true]) W:=by kernel_rfl
theorem ta_comparison_junction (p:Value) (W:World):(Instr.typeAssert (.iface 141 p) 124 143 true).run Tryz.prog W=.ok (.tuple #[zJ,.bool false]) W:=by kernel_rfl
theorem ta_comparison_negation (p:Value) (W:World):(Instr.typeAssert (.iface 141 p) 124 145 true).run Tryz.prog W=.ok (.tuple #[zN,.bool false]) W:=by kernel_rfl
theorem ta_junction_comparison (p:Value) (W:World):(Instr.typeAssert (.iface 143 p) 124 141 true).run Tryz.prog W=.ok (.tuple #[zC,.bool false]) W:=by kernel_rfl
theorem ta_junction_junction (p:Value) (W:World):(Instr.typeAssert (.iface 143 p) 124 143 true).run Tryz.prog W=.ok (.tuple #[p,.bool true]) W:=by kernel_rfl
theorem ta_junction_negation (p:Value) (W:World):(Instr.typeAssert (.iface 143 p) 124 145 true).run Tryz.prog W=.ok (.tuple #[zN,.bool false]) W:=by kernel_rfl
theorem ta_negation_comparison (p:Value) (W:World):(Instr.typeAssert (.iface 145 p) 124 141 true).run Tryz.prog W=.ok (.tuple #[zC,.bool false]) W:=by kernel_rfl
theorem ta_negation_junction (p:Value) (W:World):(Instr.typeAssert (.iface 145 p) 124 143 true).run Tryz.prog W=.ok (.tuple #[zJ,.bool false]) W:=by kernel_rfl
theorem ta_negation_negation (p:Value) (W:World):(Instr.typeAssert (.iface 145 p) 124 145 true).run Tryz.prog W=.ok (.tuple #[p,.bool true]) W:=by kernel_rfl
theorem tr_constant (p:Value) (w:World):Calls Tryz.prog 43 #[.iface 165 p] w fun e w'=>e=.returned (.bool false)∧w'=w:=by
 have h1:=fun W=>ta_constant_comparison p W
 have h2:=fun W=>ta_constant_junction p W
 have h3:=fun W=>ta_constant_negation p W
 go_enter Tryz.func43,Tryz.ntmps43
 go_wp2_with fail
 go_ret
 exact ⟨rfl,rfl⟩
theorem tr_measure (p:Value) (w:World):Calls Tryz.prog 43 #[.iface 168 p] w fun e w'=>e=.returned (.bool false)∧w'=w:=by
 have h1:=fun W=>ta_measure_comparison p W
 have h2:=fun W=>ta_measure_junction p W
 have h3:=fun W=>ta_measure_negation p W
 go_enter Tryz.func43,Tryz.ntmps43
 go_wp2_with fail
 go_ret
 exact ⟨rfl,rfl⟩
theorem tr_calculation (p:Value) (w:World):Calls Tryz.prog 43 #[.iface 166 p] w fun e w'=>e=.returned (.bool false)∧w'=w:=by
 have h1:=fun W=>ta_calculation_comparison p W
 have h2:=fun W=>ta_calculation_junction p W
 have h3:=fun W=>ta_calculation_negation p W
 go_enter Tryz.func43,Tryz.ntmps43
 go_wp2_with fail
 go_ret
 exact ⟨rfl,rfl⟩
theorem tr_comparison (p:Value) (w:World):Calls Tryz.prog 43 #[.iface 141 p] w fun e w'=>e=.returned (.bool true)∧w'=w:=by
 have h1:=fun W=>ta_comparison_comparison p W
 have h2:=fun W=>ta_comparison_junction p W
 have h3:=fun W=>ta_comparison_negation p W
 go_enter Tryz.func43,Tryz.ntmps43
 go_wp2_with fail
 go_ret
 exact ⟨rfl,rfl⟩
theorem tr_junction (p:Value) (w:World):Calls Tryz.prog 43 #[.iface 143 p] w fun e w'=>e=.returned (.bool true)∧w'=w:=by
 have h1:=fun W=>ta_junction_comparison p W
 have h2:=fun W=>ta_junction_junction p W
 have h3:=fun W=>ta_junction_negation p W
 go_enter Tryz.func43,Tryz.ntmps43
 go_wp2_with fail
 go_ret
 exact ⟨rfl,rfl⟩
theorem tr_negation (p:Value) (w:World):Calls Tryz.prog 43 #[.iface 145 p] w fun e w'=>e=.returned (.bool true)∧w'=w:=by
 have h1:=fun W=>ta_negation_comparison p W
 have h2:=fun W=>ta_negation_junction p W
 have h3:=fun W=>ta_negation_negation p W
 go_enter Tryz.func43,Tryz.ntmps43
 go_wp2_with fail
 go_ret
 exact ⟨rfl,rfl⟩
def nty (sh:Nat):TypeId:=if sh=1 then 165 else if sh=4 then 166 else if sh=5 then 141 else if sh=6 then 143 else if sh=7 then 145 else 168
def trB (sh:Nat):Bool:=decide (5≤sh)
theorem truth_any (sh:Nat) (h:sh≤7) (p:Value) (w:World):Calls Tryz.prog 43 #[.iface (nty sh) p] w fun e w'=>e=.returned (.bool (trB sh))∧w'=w:=by
 have:sh=0∨sh=1∨sh=2∨sh=3∨sh=4∨sh=5∨sh=6∨sh=7:=by omega
 rcases this with rfl | rfl | rfl | rfl | rfl | rfl | rfl | rfl
 ·exact tr_measure p w
 ·exact tr_constant p w
 ·exact tr_measure p w
 ·exact tr_measure p w
 ·exact tr_calculation p w
 ·exact tr_comparison p w
 ·exact tr_junction p w
 ·exact tr_negation p w
end Go.Proofs.YtlgkfeeclgcgbaaGreatDoor.Ru
/- RULES: typed. Own work of the verifier. -/
namespace Go.Proofs.YtlgkfeeclgcgbaaGreatDoor.Ru
open Go.RowKit Me
def RT.kd:RT→Int
 | .mk k _ _ _ _ _ _ _=>k
def RT.fx:RT→Nat
 | .mk _ x _ _ _ _ _ _=>x
mutual
def nds:RT→List RT
 | .mk k x nm lb w n d ar=>.mk k x nm lb w n d ar::ndsL ar
def ndsL:List RT→List RT
 | []=>[]
 | t::ar=>nds t++ndsL ar
end
mutual
def typE:RT→Int
 | .mk k _ _ _ _ _ _ ar=>typL (decide (shp k=6) || decide (shp k=7)) ar
def typL (want:Bool):List RT→Int
 | []=>0
 | t::ar=>if typE t≠0 then typE t else if trB (shp t.kd)≠want then 17 else typL want ar
end
theorem nds_self (t:RT):t ∈ nds t:=by
 obtain ⟨k,x,nm,lb,w,n,d,ar⟩:=t
 unfold nds
 exact List.mem_cons_self
theorem ndsL_mem {a s:RT}:∀ {ar:List RT},a ∈ ar→s ∈ nds a→s ∈ ndsL ar
 | [],h,_=>by cases h
 | t::ar,h,hs=>by
  unfold ndsL
  rcases List.mem_cons.1 h with rfl | h
  ·exact List.mem_append_left _ hs
  ·exact List.mem_append_right _ (ndsL_mem h hs)
theorem RVs.at_ {B:Nat} {W:World} {b:Nat}:∀ {ar:List RT} {o:Nat},RVs B W b o ar→∀ i (hi:i < ar.length),∃ u:Array Value,RV B W ar[i] (.agg u)∧u.size=8∧∀ j (h:j < u.size),W.cell? ⟨b,o+i*8+j,none⟩=some u[j]
 | [],_,_,i,hi=>by simp at hi
 | t::ar,o,h,i,hi=>by
  unfold RVs at h
  obtain ⟨⟨u,h1,h2,h3⟩,h4⟩:=h
  cases i with
  | zero=>exact ⟨u,h1,h2,fun j hj=>by rw [Nat.zero_mul,Nat.add_zero];exact h3 j hj⟩
  | succ i =>
   obtain ⟨u',k1,k2,k3⟩:=RVs.at_ h4 i (by simpa using hi)
   exact ⟨u',k1,k2,fun j hj=>by rw [show o+(i+1)*8+j=o+8+i*8+j by omega];exact k3 j hj⟩
mutual
def FmC:RT→Value→Prop
 | .mk k x nm lb w n d ar,p=>(shp k=1→p=.float .f64 x)∧(shp k=2∨shp k=3→∃ la lc aa ac,p=.agg (rc k x nm (.slice la lb.length lc) w n d (.slice aa ar.length ac))∧(la=none→lc=0)∧lc≤9223372036854775807)∧(shp k=4∨shp k=5→∃ p0 p1,FmCs ar [p0,p1]∧p=.agg #[.int .i64 k,p0,p1])
def FmCs:List RT→List Value→Prop
 | [],l=>l=[]
 | t::ar,l=>∃ p r,l=.iface (nty (shp t.kd)) p::r∧FmC t p∧FmCs ar r
end
theorem fmcs_two {ar:List RT} (h:ar.length=2) {p0 p1:Value} (h0:FmC (ar[0]'(by omega)) p0) (h1:FmC (ar[1]'(by omega)) p1):FmCs ar [.iface (nty (shp (ar[0]'(by omega)).kd)) p0,.iface (nty (shp (ar[1]'(by omega)).kd)) p1]:=by
 obtain ⟨a,b,rfl⟩:∃ a b,ar=[a,b]:=by
  match ar,h with
  | [a,b],_=>exact ⟨a,b,rfl⟩
 unfold FmCs
 refine ⟨p0,_,rfl,h0,?_⟩
 unfold FmCs
 refine ⟨p1,[],rfl,h1,?_⟩
 unfold FmCs
 rfl
def TyQ (t:RT) (e:Ending):Prop:=(typE t=0∧∃ p,e=.returned (.tuple #[.iface (nty (shp t.kd)) p,.int .i64 0])∧(shp t.kd=1→p=.float .f64 t.fx)∧FmC t p)∨(typE t≠0∧e=.returned (.tuple #[.nilIface,.int .i64 (typE t)]))
structure TyI (w:World) (c:Array Value) (ar:List RT) (i:Nat) (sv:Value) (W:World):Prop where
 b:Below w.heap.size w W
 bx:W.heap[w.heap.size]? =some (.cells c 61)
 o:∃ ns:List Value,ns.length=i∧W.ownsRow (w.heap.size+1) 124 1 sv i ns∧∀ j (h:j < ar.length),j < i→∃ p,ns[j]? =some (.iface (nty (shp ar[j].kd)) p)∧FmC ar[j] p
theorem TyI.below {w:World} {c:Array Value} {ar:List RT} {i:Nat} {sv:Value} {W W1:World} (h:TyI w c ar i sv W) (hb:Below W.heap.size W W1):TyI w c ar i sv W1:=by
 obtain ⟨ns,h1,h2,h3⟩:=h.o
 exact ⟨bt h.b hb,(hb.block _ (Array.getElem?_eq_some_iff.1 h.bx).1).trans h.bx,ns,h1,own_belG h2 hb,h3⟩
theorem infoNode:(Tryz.prog.info? 124).map (fun i=>(i.zero,i.size,i.bytes))=some (some .nilIface,1,16):=by kernel_rfl
theorem sizeR (W:World):(sizeOf 61).run Tryz.prog W=.ok 8 W:=by simp [sizeOf];rfl
theorem index_rl (b o len cap j:Nat) (z:Int) (hz:z=(j:Int)) (hj:j < len) (W:World) :
  (Instr.indexAt 59 (.slice (some ⟨b,o,none⟩) len cap) (.int .i64 z)).run Tryz.prog W=.ok (.pointer (some ⟨b,o+j*8,none⟩)) W:=by
 subst hz
 have he:Tryz.prog.elem 59=61:=by simp [Program.elem,Tryz.underlying59]
 rw [run_indexAt_slice W 59 ⟨b,o,none⟩ len cap .i64 (j:Int) (by rw [he];exact Tryz.underlying59),if_pos (by omega),he,sizeR]
 simp [Addr.add]
theorem typL_drop (want:Bool) (ar:List RT) (i:Nat) (h:i < ar.length):typL want (ar.drop i)=if typE ar[i]≠0 then typE ar[i] else if trB (shp ar[i].kd)≠want then 17 else typL want (ar.drop (i+1)):=by
 rw [List.drop_eq_getElem_cons h]
 rw [typL]
theorem typL_end (want:Bool) (ar:List RT):typL want (ar.drop ar.length)=0:=by
 rw [List.drop_length,typL]
theorem okN_len {k:Int} {x:Nat} {nm:List UInt8} {lb:List La.Lb} {w n d:Int} {ar:List RT} (h:okN (.mk k x nm lb w n d ar)=0):shp k≠0∧(shp k=4∨shp k=5∨shp k=6→ar.length=2)∧(shp k=7→ar.length=1)∧(shp k=1∨shp k=2∨shp k=3→ar.length=0):=by
 have h':ndE (shp k) x nm lb w n d ar.length=0:=h
 unfold ndE at h'
 by_cases q0:shp k=0
 ·rw [if_pos q0] at h';exact absurd h' (by decide)
 ·rw [if_neg q0] at h'
  split at h'
  ·exact absurd h' (by decide)
  ·rename_i gs
   split at h'
   ·exact absurd h' (by decide)
   ·rename_i g
    refine ⟨q0,fun e=>?_,fun e=>?_,fun e=>?_⟩
    ·have:hldB (shp k) x w n d ar.length=true:=by simpa using g
     unfold hldB at this
     rw [if_neg (by omega),if_neg (by omega),if_neg (by omega),if_neg (by omega)] at this
     exact of_decide_eq_true this
    ·have:hldB (shp k) x w n d ar.length=true:=by simpa using g
     unfold hldB at this
     rw [if_neg (by omega),if_neg (by omega),if_neg (by omega),if_pos e] at this
     exact of_decide_eq_true this
    ·have hs:smO (shp k) x nm lb.length w n d ar.length=true:=by simpa using gs
     have fin:∀ a b c d' e' f',s0B a b c d' e' f' ar.length=true→ar.length=0:=fun a b c d' e' f' h=>by
      unfold s0B at h
      simp only [Bool.and_eq_true,decide_eq_true_eq] at h
      exact h.2
     unfold smO at hs
     rcases e with e | e | e
     ·rw [if_pos e] at hs;exact fin _ _ _ _ _ _ hs
     ·rw [if_neg (by omega),if_neg (by omega),if_pos e] at hs;exact fin _ _ _ _ _ _ hs
     ·rw [if_neg (by omega),if_pos e] at hs;exact fin _ _ _ _ _ _ hs
theorem kwI_le (k:Int):shp k≤7:=by
 unfold shp kwI
 split
 ·rename_i h
  generalize k.toNat=i
  by_cases hi:i < 22
  ·rcases i with _ | _ | _ | _ | _ | _ | _ | _ | _ | _ | _ | _ | _ | _ | _ | _ | _ | _ | _ | _ | _ | _ | i
   all_goals first | omega | decide
  ·have:kwA i=(0,[]):=by unfold kwA;rw [List.getD,List.getElem?_eq_none (show kwT.length≤i by show 22≤i;omega)];rfl
   rw [this];decide
 ·decide
theorem TyI.push {w:World} {c:Array Value} {ar:List RT} {i:Nat} {sv v':Value} {W W':World} (h:TyI w c ar i sv W) (hlt:i < ar.length) (p:Value) {ns:List Value} (hn:ns.length=i) (hown:W.ownsRow (w.heap.size+1) 124 1 sv i ns) (hns:∀ j (h:j < ar.length),j < i+1→∃ q,(ns++[Value.iface (nty (shp ar[i].kd)) p])[j]? =some (Value.iface (nty (shp ar[j].kd)) q)∧FmC ar[j] q)
  (hown':W'.ownsRow (w.heap.size+1) 124 1 v' (i+1) (ns++[Value.iface (nty (shp ar[i].kd)) p])) (hg:W.grownBy W' sv.ownBlock):TyI w c ar (i+1) v' W':=by
 have hge:∀ k,sv.ownBlock=some k→w.heap.size+1≤k:=fun k e=>by
  rcases own_atG hown with q | ⟨g,q1,q2,-⟩
  ·rw [q] at e;cases e
  ·rw [q1] at e;cases e;exact q2
 have hlt':=(Array.getElem?_eq_some_iff.1 h.bx).1
 refine ⟨h.b.trans ((Below.refl _ _).grown hg (by omega) (fun k e=>by have:=hge k e;omega)),?_,_,by rw [List.length_append,hn];rfl,hown',hns⟩
 exact (hg.block w.heap.size hlt' (fun e=>by have:=hge _ e.symm;omega)).trans h.bx
theorem ns_push (ar:List RT) (i:Nat) (hlt:i < ar.length) (pp:Value) (hpp:FmC ar[i] pp) (ns:List Value) (hn:ns.length=i) (hns:∀ j (h:j < ar.length),j < i→∃ p,ns[j]? =some (Value.iface (nty (shp ar[j].kd)) p)∧FmC ar[j] p):∀ j (h:j < ar.length),j < i+1→∃ p,(ns++[Value.iface (nty (shp ar[i].kd)) pp])[j]? =some (Value.iface (nty (shp ar[j].kd)) p)∧FmC ar[j] p:=by
 intro j hj hji
 by_cases e:j=i
 ·subst e
  exact ⟨pp,by rw [List.getElem?_append_right (by omega),hn,Nat.sub_self];rfl,hpp⟩
 ·obtain ⟨p',hp',hf⟩:=hns j hj (by omega)
  exact ⟨p',by rw [List.getElem?_append_left (by omega)];exact hp',hf⟩
end Go.Proofs.YtlgkfeeclgcgbaaGreatDoor.Ru
/- RULES: typed, the walk. Own work of the verifier. -/
set_option maxRecDepth 100000
set_option maxHeartbeats 1000000
namespace Go.Proofs.YtlgkfeeclgcgbaaGreatDoor.Ru
open Go.RowKit Me
theorem cellH' {W W1:World} {a:Addr} {u:Value} (hb:Below W.heap.size W W1) (h:W.cell? a=some u):W1.cell? a=some u:=cellH hb h
theorem own_cells {W:World} {B:Nat} {e:TypeId} {n:Nat} {sa:Option Addr} {sc:Nat} {xs:List Value} (h:W.ownsRow B e 1 (.slice sa n sc) n xs) (hn:0 < n):∃ g,sa=some ⟨g,0,none⟩∧∀ j,j < n→W.cell? ⟨g,j,none⟩=xs[j]?:=by
 have h':=h
 rcases h.2 with ⟨k,k2⟩ | ⟨g,cap,cur,k,_⟩
 ·omega
 ·cases k
  exact ⟨g,rfl,fun j hj=>h'.cellAt j (by omega)⟩
theorem own_sl16 {W:World} {B:Nat} {e:TypeId} {s n:Nat} {v:Value} {xs:List Value} (h:W.ownsRow B e s v n xs):∃ ao cap,v=.slice ao n cap:=by
 rcases h.2 with ⟨k,k2⟩ | ⟨g,cap,cur,k,_⟩
 ·exact ⟨none,0,by rw [k,k2]⟩
 ·exact ⟨_,cap,k⟩
theorem typed_any : ∀ (t : RT) (B : Nat) (v : Value) (w : World), RV B w t v → (∀ s ∈ nds t, okN s = 0) → Kd w →
    Calls Tryz.prog 61 #[v] w fun e w' => TyQ t e ∧ Below w.heap.size w w' := by
  refine RT.ind ?_
  intro k x nm lb wi n d ar ih B v w hv hok h
  have hself := hok _ (nds_self _)
  have hch : ∀ i (hi : i < ar.length), ∀ s ∈ nds ar[i], okN s = 0 := fun i hi s hs => hok s (by
    unfold nds
    exact List.mem_cons_of_mem _ (ndsL_mem (List.getElem_mem hi) hs))
  obtain ⟨hl0, hl2, hl1, hl3⟩ := okN_len hself
  have hsh := kwI_le k
  unfold RV at hv
  obtain ⟨lv, aa, ab, ao, ac, rfl, hl, haa, hac, hac2, hrs⟩ := hv
  obtain ⟨la, -, -, lc, rfl, -, -, hlc2, hlc0, -⟩ := hl
  obtain ⟨W0, hW0⟩ : ∃ W0, W0 = w.alloc (.cells (rc k x nm (.slice la lb.length lc) wi n d (.slice aa ar.length ac)) 61) := ⟨_, rfl⟩
  have hb0 : Below w.heap.size w W0 := by rw [hW0]; exact bel1 w _
  have hn0 : W0.heap[w.heap.size]? = some (.cells (rc k x nm (.slice la lb.length lc) wi n d (.slice aa ar.length ac)) 61) := by rw [hW0]; exact new_1 w _
  have HK : Hid (∀ W, Below w.heap.size w W → Calls Tryz.prog 78 #[rx k x nm (.slice la lb.length lc) wi n d (.slice aa ar.length ac)] W fun e w' => e = .returned (kx (kwI k)) ∧ Below W.heap.size W w') := fun W hb => kind_any k x nm _ wi n d _ ⟨_, _, _, rfl⟩ ⟨_, _, _, rfl⟩ W (h.below hb)
  have HC : Hid (∀ i (hi : i < ar.length), ∃ u : Array Value, u.size = 8 ∧ (∀ j (hj : j < u.size), w.cell? ⟨ab, ao + i * 8 + j, none⟩ = some u[j]) ∧ (∃ k x nm la ln lc w n d aa an ac, u = rc k x nm (.slice la ln lc) w n d (.slice aa an ac)) ∧ ∀ W, Below w.heap.size w W → Calls Tryz.prog 61 #[.agg u] W fun e w' => TyQ ar[i] e ∧ Below W.heap.size W w') := fun i hi => by
    obtain ⟨u, h1, h2, h3⟩ := hrs.at_ i hi
    refine ⟨u, h2, h3, ?_, fun W hb => ih ar[i] (List.getElem_mem hi) B (.agg u) W (h1.below hb) (hch i hi) (h.below hb)⟩
    obtain ⟨k', x', nm', la', ln', lc', w', n', d', aa', an', ac', e⟩ := h1.form
    exact ⟨k', x', nm', la', ln', lc', w', n', d', aa', an', ac', by cases e; rfl⟩
  have HTr : Hid (∀ sh, sh ≤ 7 → ∀ p W, Calls Tryz.prog 43 #[.iface (nty sh) p] W fun e w' => e = .returned (.bool (trB sh)) ∧ w' = W) := fun sh hs p W => truth_any sh hs p W
  obtain ⟨i0, hi0, hz0, hz1, hz2⟩ := info_parts infoNode
  have hty : typE (.mk k x nm lb wi n d ar) = typL (decide (shp k = 6) || decide (shp k = 7)) ar := by rw [typE]
  have hkw : kwI k = (shp k, (kwI k).2) := rfl
  rw [hkw] at HK
  obtain ⟨y0, y1, y2, y3, y4, y5, y6, y7⟩ := eight hn0
  have hT0 : TyI w (rc k x nm (.slice la lb.length lc) wi n d (.slice aa ar.length ac)) ar 0 (.slice none 0 0) W0 := ⟨hb0, hn0, [], rfl, ⟨rfl, Or.inl ⟨rfl, rfl⟩⟩, fun j _ hj => absurd hj (by omega)⟩
  have HT0 := hid_of hT0
  have HW0 := hid_of hW0
  have HLc : Hid ((la = none → lc = 0) ∧ lc ≤ 9223372036854775807) := ⟨hlc0, hlc2⟩
  clear hlc0 hlc2
  have hfl := fldK
  clear h hok hch hself hrs hb0 hn0 hW0 ih hkw hT0
  have HQ1 : Hid (∀ z, typE (.mk k x nm lb wi n d ar) = z → z ≠ 0 → TyQ (.mk k x nm lb wi n d ar) (.returned (.tuple #[.nilIface, .int .i64 z]))) := fun z h1 h2 => Or.inr ⟨by rw [h1]; exact h2, by rw [h1]⟩
  have HQ0 : Hid (∀ p, typE (.mk k x nm lb wi n d ar) = 0 → (shp k = 1 → p = .float .f64 x) → (shp k = 2 ∨ shp k = 3 → ∃ la lc aa ac, p = .agg (rc k x nm (.slice la lb.length lc) wi n d (.slice aa ar.length ac)) ∧ (la = none → lc = 0) ∧ lc ≤ 9223372036854775807) → (shp k = 4 ∨ shp k = 5 → ∃ p0 p1, FmCs ar [p0, p1] ∧ p = .agg #[.int .i64 k, p0, p1]) → TyQ (.mk k x nm lb wi n d ar) (.returned (.tuple #[.iface (nty (shp k)) p, .int .i64 0]))) := fun p h1 h2 h3 h4 => Or.inl ⟨h1, p, rfl, h2, by unfold FmC; exact ⟨h2, h3, h4⟩⟩
  have HZ0 : Hid (typE (.mk k x nm lb wi n d ar) = typL (decide (shp k = 6) || decide (shp k = 7)) (ar.drop 0)) := by show _ = _; rw [List.drop_zero]; exact hty
  clear hty
  have e6 : ((shp k : Int) == 6) = decide (shp k = 6) := len_b (shp k) 6
  have e7 : ((shp k : Int) == 7) = decide (shp k = 7) := len_b (shp k) 7
  have hd67 : (decide (shp k = 6) = true → shp k = 6) ∧ (decide (shp k = 7) = true → shp k = 7) ∧ (decide (shp k = 6) = false → shp k ≠ 6) ∧ (decide (shp k = 7) = false → shp k ≠ 7) := ⟨of_decide_eq_true, of_decide_eq_true, of_decide_eq_false, of_decide_eq_false⟩
  have HD := hid_of hd67
  clear hd67
  generalize (kwI k).2 = wd at *
  generalize typE (.mk k x nm lb wi n d ar) = Z at *
  generalize TyQ (.mk k x nm lb wi n d ar) = TQ at *
  generalize shp k = sh at *
  generalize decide (sh = 6) = d6 at *
  generalize decide (sh = 7) = d7 at *
  have H2 := hid_of hl2
  have H1 := hid_of hl1
  have HA := hid_of haa
  have H0 := hid_of hl0
  have HS := hid_of hsh
  have hle2 : ar.length ≤ 2 := by omega
  have H3 := hid_of hl3
  have hal : (ar.length : Int) ≤ 9223372036854775807 := by omega
  clear hl3
  clear hl2 hl1 haa hl0 hac hac2 hsh
  have sF := store_f
  go_enter Tryz.func61, Tryz.ntmps61
  go_upto_region 1 with fail
  rw [← HW0.out]
  clear HW0
  go_wp2_with fail
  refine Calls.mono (HK.out _ HT0.out.b) ?_
  rintro e w1 ⟨rfl, hbw⟩
  have HT1 := hid_of (HT0.out.below hbw)
  clear hbw HK HT0 y0 y1 y2 y3 y4 y5 y6 y7
  obtain ⟨y0, y1, y2, y3, y4, y5, y6, y7⟩ := eight HT1.out.bx
  go_wp2_with fail
  go_loopw [4, 16] (fun sv a W => ∃ (i : Nat) (sa : Option Addr) (sc : Nat), i ≤ ar.length ∧ sv = .slice sa i sc ∧ a = .int .i64 (i : Int) ∧ Hid (TyI w (rc k x nm (.slice la lb.length lc) wi n d (.slice aa ar.length ac)) ar i (.slice sa i sc) W) ∧ Hid (Z = typL (d6 || d7) (ar.drop i))) (fun _ a _ => ar.length - (intOf a).toNat)
  case atStart => exact ⟨0, none, 0, by omega, rfl, rfl, HT1, HZ0⟩
  case round =>
    clear HT1 HZ0 y0 y1 y2 y3 y4 y5 y6 y7
    obtain ⟨i, sa, sc, hi, rfl, rfl, HT, HZ⟩ := hrel
    by_cases hlt : i < ar.length
    · have hlt' : (i : Int) < (ar.length : Int) := by omega
      obtain ⟨haa, -⟩ := HA.out (fun e => by rw [e] at hlt; simp at hlt)
      subst haa
      obtain ⟨u, hu8, hcs, ⟨k', x', nm', la', ln', lc', w', n', d', aa', an', ac', rfl⟩, hcall⟩ := HC.out i hlt
      have cs0 := fun j hj => cellH' HT.out.b (hcs j hj)
      have x0 := cs0 0 (by show 0 < 8; decide)
      have x1 := cs0 1 (by show 1 < 8; decide)
      have x2 := cs0 2 (by show 2 < 8; decide)
      have x3 := cs0 3 (by show 3 < 8; decide)
      have x4 := cs0 4 (by show 4 < 8; decide)
      have x5 := cs0 5 (by show 5 < 8; decide)
      have x6 := cs0 6 (by show 6 < 8; decide)
      have x7 := cs0 7 (by show 7 < 8; decide)
      simp only [Nat.add_zero] at x0
      have hix := index_rl ab ao ar.length ac i (i : Int) rfl hlt
      have hz := HZ.out
      rw [typL_drop _ _ _ hlt] at hz
      have hshc := kwI_le ar[i].kd
      have HTrI : Hid (∀ p W, Calls Tryz.prog 43 #[.iface (nty (shp ar[i].kd)) p] W fun e w' => e = .returned (.bool (trB (shp ar[i].kd))) ∧ w' = W) := fun p W => HTr.out _ hshc p W
      have hbA := bel1 wr (.cells (rc k' x' nm' (.slice la' ln' lc') w' n' d' (.slice aa' an' ac')) 61)
      have HTA := hid_of (HT.out.below hbA)
      have hnA := new_1 wr (.cells (rc k' x' nm' (.slice la' ln' lc') w' n' d' (.slice aa' an' ac')) 61)
      have HCall : Hid (∀ W, Below w.heap.size w W → Calls Tryz.prog 61 #[.agg (rc k' x' nm' (.slice la' ln' lc') w' n' d' (.slice aa' an' ac'))] W fun e w' => TyQ ar[i] e ∧ Below W.heap.size W w') := hcall
      have HZ1 := hid_of hz
      have HNs : Hid (∀ (pp : Value), FmC ar[i] pp → ∀ (sv v' : Value) (W W' : World) (ns : List Value), TyI w (rc k x nm (.slice la lb.length lc) wi n d (.slice (some ⟨ab, ao, none⟩) ar.length ac)) ar i sv W → ns.length = i → W.ownsRow (w.heap.size + 1) 124 1 sv i ns → (∀ j (h : j < ar.length), j < i → ∃ p, ns[j]? = some (.iface (nty (shp ar[j].kd)) p) ∧ FmC ar[j] p) → W'.ownsRow (w.heap.size + 1) 124 1 v' (i + 1) (ns ++ [Value.iface (nty (shp ar[i].kd)) pp]) → W.grownBy W' sv.ownBlock → TyI w (rc k x nm (.slice la lb.length lc) wi n d (.slice (some ⟨ab, ao, none⟩) ar.length ac)) ar (i + 1) v' W') := fun pp hpp sv v' W W' ns h hn ho hns ho' hg => h.push hlt pp hn ho (ns_push ar i hlt pp hpp ns hn hns) ho' hg
      clear hcs cs0 hcall hz HC HTr hu8 hshc hbA
      obtain ⟨t0, t1, t2, t3, t4, t5, t6, t7⟩ := eight hnA
      clear hnA
      go_upto_region 6 with fail
      generalize hWA : wr.alloc (.cells (rc k' x' nm' (.slice la' ln' lc') w' n' d' (.slice aa' an' ac')) 61) = WA at *
      generalize wr.heap.size = gb at *
      clear hWA x0 x1 x2 x3 x4 x5 x6 x7
      go_wp2_with fail
      refine Calls.mono (HCall.out _ HTA.out.b) ?_
      rintro e w2 ⟨hq, hb2⟩
      have HT2 := hid_of (HTA.out.below hb2)
      clear hb2 HTA HCall t0 t1 t2 t3 t4 t5 t6 t7 HT
      rcases hq with ⟨hz0', p, rfl, -, hfm⟩ | ⟨hz0', rfl⟩
      · have hz := HZ1.out
        rw [if_neg (fun h => h hz0')] at hz
        have D : La.HidC _ _ _ _ _ := HTrI.out p w2
        have HNp := hid_of (HNs.out p hfm)
        clear hfm
        generalize nty (shp ar[i].kd) = ty at *
        generalize trB (shp ar[i].kd) = tb at *
        by_cases hm : tb = (d6 || d7)
        · rw [if_neg (fun h => h hm)] at hz
          have HZ2 := hid_of hz
          subst hm
          have hlt3 := hlt
          clear HZ1 HNs hz hz0' HTrI HQ1 HQ0
          obtain ⟨ns, hn, ho, hns⟩ := HT2.out.o
          have HO := hid_of (own_belG ho (bel1 w2 (.cells #[.iface ty p] 124)))
          have HN := hid_of (new_1 w2 (.cells #[.iface ty p] 124))
          have hbx2 := (Array.getElem?_eq_some_iff.1 HT2.out.bx).1
          have HSz : Hid (w.heap.size + 1 ≤ (w2.alloc (.cells #[.iface ty p] 124)).heap.size) := by unfold Hid; simp; omega
          have HTB := hid_of (HT2.out.below (bel1 w2 (.cells #[.iface ty p] 124)))
          have HI3 := hid_of hns
          have HN0 := hid_of hn
          clear ho hns hbx2 HT2 hn
          cases d6 <;> cases d7 <;>
            (go_wp2_with fail
             refine (D.out).mono ?_
             rintro e w3 ⟨rfl, rfl⟩
             go_wp2_with (first | (at_builtin; refine wpList_append_own _ rfl _ _ 161 rfl (w.heap.size + 1) 124 i0 _ 1 16 Tryz.underlying161 hi0 hz0 hz1 hz2 rfl (by decide) _ i ns rfl HO.out ⟨_, 0, none⟩ 1 1 [.iface ty p] rfl rfl (World.news_of_block HN.out) (by simp [Value.oneCell']) (by unfold maxLen; omega) (by omega) HSz.out ?_; intro v5 w5 hown5 hg5 _; obtain ⟨a5, n5, rfl⟩ := own_sl16 hown5; have HI5 := hid_of (HNp.out _ _ _ _ _ HTB.out HN0.out HO.out HI3.out hown5 hg5); clear hown5 hg5 HTB HO HI3 HN HNp))
             exact ⟨⟨i + 1, _, _, by omega, rfl, rfl, HI5, HZ2⟩, by simp only [intOf]; omega⟩)
        · rw [if_pos hm] at hz
          have HF := hid_of (HQ1.out 17 hz (by decide))
          have HBf := hid_of HT2.out.b
          clear HZ1 HNs hz hz0' HTrI HQ1 HQ0 HT2
          cases tb <;> cases d6 <;> cases d7 <;> first
            | exact absurd rfl hm
            | (clear hm
               go_wp2_with fail
               refine (D.out).mono ?_
               rintro e w3 ⟨rfl, rfl⟩
               go_wp2_with fail
               go_ret2
               exact ⟨HF.out, HBf.out⟩)
      · have hz := HZ1.out
        rw [if_pos hz0'] at hz
        have hne : (typE ar[i] == 0) = false := beq_eq_false_iff_ne.2 hz0'
        have HF := hid_of (HQ1.out _ hz hz0')
        have HBf := hid_of HT2.out.b
        clear HZ1 HNs hz hz0' HTrI HQ1 HQ0 HT2
        generalize typE ar[i] = ez at *
        go_wp2_with fail
        go_ret2
        exact ⟨HF.out, HBf.out⟩
    · have hie : i = ar.length := by omega
      subst hie
      have hz := HZ.out
      rw [typL_end] at hz
      obtain ⟨ns, hn, ho, hns⟩ := HT.out.o
      have HBf := hid_of HT.out.b
      obtain ⟨y0, y1, y2, y3, y4, y5, y6, y7⟩ := eight HT.out.bx
      have hs0 := H0.out
      have hs7 := HS.out
      have HO := hid_of ho
      have HNS := hid_of hns
      have HN0 := hid_of hn
      clear ho hns hn HT HZ hlt HC HTr HQ1 HD
      have hcase : sh = 1 ∨ sh = 2 ∨ sh = 3 ∨ sh = 4 ∨ sh = 5 ∨ sh = 6 ∨ sh = 7 := by omega
      rcases hcase with rfl | rfl | rfl | rfl | rfl | rfl | rfl
      · go_wp2_with fail
        go_ret2
        exact ⟨HQ0.out _ hz (fun _ => rfl) (fun e => absurd e (by decide)) (fun e => absurd e (by decide)), HBf.out⟩
      · go_wp2_with fail
        go_ret2
        exact ⟨HQ0.out _ hz (fun e => absurd e (by decide)) (fun _ => ⟨_, _, _, _, rfl, HLc.out.1, HLc.out.2⟩) (fun e => absurd e (by decide)), HBf.out⟩
      · go_wp2_with fail
        go_ret2
        exact ⟨HQ0.out _ hz (fun e => absurd e (by decide)) (fun _ => ⟨_, _, _, _, rfl, HLc.out.1, HLc.out.2⟩) (fun e => absurd e (by decide)), HBf.out⟩
      · have h2 := H2.out (by decide)
        obtain ⟨g, rfl, hcl⟩ := own_cells HO.out (by omega)
        obtain ⟨p0, hp0, hf0⟩ := HNS.out 0 (by omega) (by omega)
        obtain ⟨p1, hp1, hf1⟩ := HNS.out 1 (by omega) (by omega)
        have HFm := hid_of (fmcs_two h2 hf0 hf1)
        clear hf0 hf1
        have c0 := (hcl 0 (by omega)).trans hp0
        have c1 := (hcl 1 (by omega)).trans hp1
        generalize nty (shp (ar[0]'(by omega)).kd) = ty0 at *
        generalize nty (shp (ar[1]'(by omega)).kd) = ty1 at *
        clear hcl hp0 hp1 HO HNS HN0 HA H1 H2 H3 HS H0 hs0 hs7 hi hal hle2
        generalize ar.length = m at *
        subst h2
        go_wp2_with fail
        go_quiet (fail)
        go_wp2_with fail
        go_ret2
        exact ⟨HQ0.out _ hz (fun e => absurd e (by decide)) (fun e => absurd e (by decide)) (fun _ => ⟨_, _, HFm.out, rfl⟩), bel_dn HBf.out _⟩
      · have h2 := H2.out (by decide)
        obtain ⟨g, rfl, hcl⟩ := own_cells HO.out (by omega)
        obtain ⟨p0, hp0, hf0⟩ := HNS.out 0 (by omega) (by omega)
        obtain ⟨p1, hp1, hf1⟩ := HNS.out 1 (by omega) (by omega)
        have HFm := hid_of (fmcs_two h2 hf0 hf1)
        clear hf0 hf1
        have c0 := (hcl 0 (by omega)).trans hp0
        have c1 := (hcl 1 (by omega)).trans hp1
        generalize nty (shp (ar[0]'(by omega)).kd) = ty0 at *
        generalize nty (shp (ar[1]'(by omega)).kd) = ty1 at *
        clear hcl hp0 hp1 HO HNS HN0 HA H1 H2 H3 HS H0 hs0 hs7 hi hal hle2
        generalize ar.length = m at *
        subst h2
        go_wp2_with fail
        go_quiet (fail)
        go_wp2_with fail
        go_ret2
        exact ⟨HQ0.out _ hz (fun e => absurd e (by decide)) (fun e => absurd e (by decide)) (fun _ => ⟨_, _, HFm.out, rfl⟩), bel_dn HBf.out _⟩
      · have h2 := H2.out (by decide)
        obtain ⟨g, rfl, hcl⟩ := own_cells HO.out (by omega)
        obtain ⟨p0, hp0, hf0⟩ := HNS.out 0 (by omega) (by omega)
        obtain ⟨p1, hp1, hf1⟩ := HNS.out 1 (by omega) (by omega)
        have HFm := hid_of (fmcs_two h2 hf0 hf1)
        clear hf0 hf1
        have c0 := (hcl 0 (by omega)).trans hp0
        have c1 := (hcl 1 (by omega)).trans hp1
        generalize nty (shp (ar[0]'(by omega)).kd) = ty0 at *
        generalize nty (shp (ar[1]'(by omega)).kd) = ty1 at *
        clear hcl hp0 hp1 HO HNS HN0 HA H1 H2 H3 HS H0 hs0 hs7 hi hal hle2
        generalize ar.length = m at *
        subst h2
        go_wp2_with fail
        go_quiet (fail)
        go_wp2_with fail
        go_ret2
        exact ⟨HQ0.out _ hz (fun e => absurd e (by decide)) (fun e => absurd e (by decide)) (fun e => absurd e (by decide)), bel_dn HBf.out _⟩
      · have h2 := H1.out rfl
        obtain ⟨g, rfl, hcl⟩ := own_cells HO.out (by omega)
        obtain ⟨p0, hp0, -⟩ := HNS.out 0 (by omega) (by omega)
        have c0 := (hcl 0 (by omega)).trans hp0
        generalize nty (shp (ar[0]'(by omega)).kd) = ty0 at *
        clear hcl hp0 HO HNS HN0 HA H1 H2 H3 HS H0 hs0 hs7 hi hal hle2
        generalize ar.length = m at *
        subst h2
        go_wp2_with fail
        go_ret2
        exact ⟨HQ0.out _ hz (fun e => absurd e (by decide)) (fun e => absurd e (by decide)) (fun e => absurd e (by decide)), HBf.out⟩
end Go.Proofs.YtlgkfeeclgcgbaaGreatDoor.Ru
/- RULES: a rule's nodes as values, in goThrough's order; what is wrong with them. Own work of the verifier. -/
namespace Go.Proofs.YtlgkfeeclgcgbaaGreatDoor.Ru
open Go.RowKit Me
mutual
def NV (W:World):RT→Value→List Value→Prop
 | .mk k x nm _ w n d ar,v,L=>∃ (lv:Value) (aa:Option Addr) (b o ac:Nat) (Lc:List Value),v=rx k x nm lv w n d (.slice aa ar.length ac)∧(ar≠[]→aa=some ⟨b,o,none⟩)∧(ar.length:Int)≤9223372036854775807∧L=v::Lc∧NVs W b o ar Lc
def NVs (W:World) (b:Nat):Nat→List RT→List Value→Prop
 | _,[],L=>L=[]
 | o,t::ar,L=>∃ (u:Array Value) (L1 L2:List Value),NV W t (.agg u) L1∧(∃ k x nm la ln lc w n d aa an ac,u=rc k x nm (.slice la ln lc) w n d (.slice aa an ac))∧(∀ j (h:j < u.size),W.cell? ⟨b,o+j,none⟩=some u[j])∧L=L1++L2∧NVs W b (o+8) ar L2
end
def Vs (B:Nat) (W:World):List RT→List Value→Prop
 | [],L=>L=[]
 | t::ar,L=>∃ v L',L=v::L'∧RV B W t v∧Vs B W ar L'
theorem Vs.append {B:Nat} {W:World}:∀ {a b:List RT} {L M:List Value},Vs B W a L→Vs B W b M→Vs B W (a++b) (L++M)
 | [],_,L,_,h,k=>by
  unfold Vs at h
  subst h
  exact k
 | t::a,_,L,_,h,k=>by
  unfold Vs at h
  obtain ⟨v,L',rfl,h1,h2⟩:=h
  show Vs B W (t::(a++_)) (v::(L'++_))
  unfold Vs
  exact ⟨v,_,rfl,h1,h2.append k⟩
theorem Vs.len {B:Nat} {W:World}:∀ {a:List RT} {L:List Value},Vs B W a L→L.length=a.length
 | [],L,h=>by
  unfold Vs at h
  subst h
  rfl
 | t::a,L,h=>by
  unfold Vs at h
  obtain ⟨v,L',rfl,-,h2⟩:=h
  simp [h2.len]
theorem nvs_ex {B b:Nat} {W:World}:∀ (ar:List RT) (o:Nat),(∀ a ∈ ar,∀ v,RV B W a v→∃ L,NV W a v L∧Vs B W (nds a) L)→RVs B W b o ar→∃ L,NVs W b o ar L∧Vs B W (ndsL ar) L
 | [],o,_,_=>⟨[],by unfold NVs;rfl,by unfold ndsL Vs;rfl⟩
 | t::ar,o,hi,h=>by
  unfold RVs at h
  obtain ⟨⟨u,h1,h2,h3⟩,h4⟩:=h
  obtain ⟨L1,k1,k2⟩:=hi t List.mem_cons_self _ h1
  obtain ⟨L2,k3,k4⟩:=nvs_ex ar (o+8) (fun a ha=>hi a (List.mem_cons_of_mem _ ha)) h4
  refine ⟨L1++L2,?_,?_⟩
  ·obtain ⟨k',x',nm',la',ln',lc',w',n',d',aa',an',ac',e⟩:=h1.form
   unfold NVs
   exact ⟨u,L1,L2,k1,⟨k',x',nm',la',ln',lc',w',n',d',aa',an',ac',by cases e;rfl⟩,h3,rfl,k3⟩
  ·unfold ndsL
   exact k2.append k4
theorem nv_ex {B:Nat} {W:World}:∀ (t:RT) (v:Value),RV B W t v→∃ L,NV W t v L∧Vs B W (nds t) L:=by
 refine RT.ind ?_
 intro k x nm lb w n d ar ih v hv
 have hv':=hv
 unfold RV at hv
 obtain ⟨lv,aa,ab,ao,ac,rfl,hl,haa,hac,hac2,hrs⟩:=hv
 obtain ⟨L,h1,h2⟩:=nvs_ex ar ao (fun a ha v hv=>ih a ha v hv) hrs
 refine ⟨rx k x nm lv w n d (.slice aa ar.length ac)::L,?_,?_⟩
 ·unfold NV
  exact ⟨lv,aa,ab,ao,ac,L,rfl,fun h=>(haa h).1,by omega,rfl,h1⟩
 ·unfold nds Vs
  exact ⟨rx k x nm lv w n d (.slice aa ar.length ac),L,rfl,hv',h2⟩
def fstE:List RT→Int
 | []=>0
 | t::r=>if okN t≠0 then okN t else fstE r
def chkE (t:RT):Int:=if 512 < (nds t).length then 3 else fstE (nds t)
def ckE (t:RT):Int:=if chkE t≠0 then chkE t else typE t
theorem fstE_zero:∀ {r:List RT},fstE r=0 ↔ ∀ s ∈ r,okN s=0
 | []=>by simp [fstE]
 | t::r=>by
  unfold fstE
  by_cases h:okN t=0
  ·rw [if_neg (fun q=>q h),fstE_zero]
   simp [h]
  ·rw [if_pos h]
   simp [h]
theorem chkE_zero {t:RT} (h:chkE t=0):∀ s ∈ nds t,okN s=0:=by
 unfold chkE at h
 split at h
 ·exact absurd h (by decide)
 ·exact fstE_zero.1 h
end Go.Proofs.YtlgkfeeclgcgbaaGreatDoor.Ru
