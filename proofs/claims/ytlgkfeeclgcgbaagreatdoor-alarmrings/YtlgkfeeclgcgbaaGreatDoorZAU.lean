/- RULES: THE READER: named. Own work of the verifier. -/
import Derived.Test.YtlgkfeeclgcgbaaGreatDoorZAT
import Derived.Lib.ConvBytes
import Derived.Lib.AtoiErrMem
import Derived.Test.YtlgkfeeclgcgbaaGreatDoorShelf
import Derived.Test.YtlgkfeeclgcgbaaGreatDoorZAJ
set_option maxRecDepth 100000
set_option maxHeartbeats 4000000
namespace Go.Proofs.YtlgkfeeclgcgbaaGreatDoor.Ru
open Go.RowKit Me
theorem kdA_ext (i:Nat) (h:i < 22):kdA.extract (i*2) (i*2+2)=#[.int .i64 ((kwA i).1:Int),.string ⟨(kwA i).2.toArray⟩]:=by
 rcases i with _ | _ | _ | _ | _ | _ | _ | _ | _ | _ | _ | _ | _ | _ | _ | _ | _ | _ | _ | _ | _ | _ | i
 all_goals first | omega | rfl
theorem index_val (i:Nat) (hi:i < 22) (W:World):(Instr.index 196 (.agg kdA) (.int .i64 (i:Int))).run Tryz.prog W=.ok (kx (kwA i)) W:=by
 have hs:=sizeK W
 have ha:(isAgg 163).run Tryz.prog W=.ok true W:=by
  unfold isAgg
  rw [Sem.run_bind,run_underlying Tryz.underlying163 W]
  rfl
 have hi':(i:Int) < 22:=by omega
 have hk:=kdA_ext i hi
 generalize kwA i=q at *
 generalize kdA=K at *
 simp [Instr.index,run_underlying Tryz.underlying196,asIntOf,part,Sem.run_bind,hs,hk,go_sem]
 intro h
 omega
theorem fnd_hit (sh:List Nat) (r:List UInt8) (i:Nat) (hi:i < 22) (h:∀ j,j < i→hitK sh r j=false) (hh:hitK sh r i=true):fndK sh r=some i:=by
 unfold fndK
 rw [List.find?_range_eq_some]
 exact ⟨hh,by simpa using hi,fun j hj=>by rw [h j hj];rfl⟩
theorem fnd_no (sh:List Nat) (r:List UInt8) (h:∀ j,j < 22→hitK sh r j=false):fndK sh r=none:=by
 unfold fndK
 rw [List.find?_eq_none]
 intro j hj
 rw [h j (by simpa using hj)]
 decide
theorem hit_of (sh:List Nat) (r:List UInt8) (i j:Nat) (hj:j < sh.length) (h:(kwA i).1=sh[j]) (hr:(kwA i).2=r):hitK sh r i=true:=by
 unfold hitK
 rw [hr,h]
 simp
theorem hit_not (sh:List Nat) (r:List UInt8) (i:Nat) (h:∀ j (hj:j < sh.length),(kwA i).1=sh[j]→(kwA i).2≠r):hitK sh r i=false:=by
 unfold hitK
 rw [Bool.and_eq_false_iff]
 by_cases k:(kwA i).2=r
 ·refine Or.inl ?_
  rw [List.contains_eq_mem,decide_eq_false_iff_not]
  intro hm
  obtain ⟨j,hj,e⟩:=List.getElem_of_mem hm
  exact h j hj e.symm k
 ·exact Or.inr (beq_eq_false_iff_ne.2 k)
theorem cellH {W W1:World} {a:Addr} {u:Value} (hb:Below W.heap.size W W1) (h:W.cell? a=some u):W1.cell? a=some u:=(hb.cell (La.lt_of_cell h)).trans h
def Shp (sb:Nat) (sh:List Nat) (W:World):Prop:=∀ j (hj:j < sh.length),W.cell? ⟨sb,j,none⟩=some (.int .i64 (sh[j]:Int))
theorem Shp.below {sb:Nat} {sh:List Nat} {W W1:World} (h:Shp sb sh W) (hb:Below W.heap.size W W1):Shp sb sh W1:=fun j hj=>cellH hb (h j hj)
theorem index_sh (b len cap j:Nat) (z:Int) (hz:z=(j:Int)) (hj:j < len) (W:World) :
  (Instr.indexAt 212 (.slice (some ⟨b,0,none⟩) len cap) (.int .i64 z)).run Tryz.prog W=.ok (.pointer (some ⟨b,j,none⟩)) W:=by
 subst hz
 have he:Tryz.prog.elem 212=3:=by simp [Program.elem,Tryz.underlying212]
 have hs:(sizeOf 3).run Tryz.prog W=.ok 1 W:=by simp [sizeOf];rfl
 rw [run_indexAt_slice W 212 ⟨b,0,none⟩ len cap .i64 (j:Int) (by rw [he];exact Tryz.underlying212),if_pos (by omega),he,hs]
 simp [Addr.add]
 omega
def NmI (T:List UInt8) (rb:Nat) (u w0:World) (s:St) (sb:Nat) (sh:List Nat) (r:List UInt8) (i:Nat) (W:World):Prop:=(∀ j,j < i→hitK sh r j=false)∧Rd T rb u w0 s W∧Shp sb sh W
def NmQ (p:UInt8→Bool) (sh:List Nat) (T:List UInt8) (rb:Nat) (u w0:World) (s:St) (e:Ending) (W:World):Prop:=e=.returned (.int .i64 ((namF p sh T s).1:Int))∧Rd T rb u w0 (namF p sh T s).2 W
theorem named_any {T:List UInt8} {rb:Nat} {u w0:World} {s:St} {w:World} (h:Rd T rb u w0 s w) (ho:Ok T s) (hk:Kd w) (k:FuncId) (p:UInt8→Bool) (hp:Tells k p) (sb:Nat) (sh:List Nat) (hs:Shp sb sh w) (hsl:sh.length=3) :
  Calls Tryz.prog 96 #[.pointer (some ⟨rb,0,none⟩),.func (.func k) #[] #[],.slice (some ⟨sb,0,none⟩) 3 3] w fun e w'=>NmQ p sh T rb u w0 s e w':=by
 have HRow:La.HidC _ _ _ _ _:=row_any h ho k p hp
 have hrl:=rowF_le p T s
 have hrT:=rst_le T s
 have hT:=ho.t
 have HPs:Hid (∀ W,Rd T rb u w0 s W→∀ m:Nat,m≤65536→Calls Tryz.prog 101 #[.pointer (some ⟨rb,0,none⟩),.int .i64 (m:Int)] W fun r w'=>r=.returned (.tuple #[])∧Rd T rb u w0 (ps s m) w'):=fun W h m hm=>pass_any h ho m hm
 have HFl:Hid (∀ W,Rd T rb u w0 s W→Calls Tryz.prog 59 #[.pointer (some ⟨rb,0,none⟩),.int .i64 5,.int .i64 (s.a:Int)] W fun r w'=>r=.returned (.tuple #[])∧Rd T rb u w0 (fl s 5 s.a) w'):=fun W h=>fail_any h 5 s.a
 have HY:Hid (∀ i,fndK sh (rowF p T s)=some i→∀ W,Rd T rb u w0 (ps s (rowF p T s).length) W→NmQ p sh T rb u w0 s (.returned (.int .i64 (i:Int))) W):=fun i hi W hr=>by
  unfold NmQ namF
  rw [hi]
  exact ⟨rfl,hr⟩
 have HN:Hid (fndK sh (rowF p T s)=none→∀ W,Rd T rb u w0 (fl s 5 s.a) W→NmQ p sh T rb u w0 s (.returned (.int .i64 0)) W):=fun hi W hr=>by
  unfold NmQ namF
  rw [hi]
  exact ⟨rfl,hr⟩
 have hl:((rowF p T s).length:Int)≤65536:=by omega
 obtain ⟨r,hr⟩:∃ r,r=rowF p T s:=⟨_,rfl⟩
 rw [← hr] at HRow HY HN hl
 have HI0:Hid (∀ n,NmI T rb u w0 s sb sh r 0 (w.drewN n)):=fun n=>⟨fun j hj=>absurd hj (by omega),h.below (bel_dn (Below.refl _ _) n),hs.below (bel_dn (Below.refl _ _) n)⟩
 have HKd:Hid (∀ n,Kd (w.drewN n)):=fun n=>hk.below (bel_dn (Below.refl _ _) n)
 clear h ho hk hp hs hrl hrT hT hr
 go_enter Tryz.func96,Tryz.ntmps96
 go_wp2_with fail
 refine (HRow.out).mono ?_
 rintro e w1 ⟨rfl,m,rfl⟩
 have HI:=hid_of (HI0.out m)
 obtain ⟨kt,kfr,hkd⟩:=HKd.out m
 clear HI0 HKd HRow
 generalize w.drewN m=w1 at *
 go_upto_region 2 with fail
 refine wp_region_list ?_
 refine wpList_load_row rfl _ _ rfl 0 rfl _ _ _ _ hkd Tryz.underlying196 rfl (by kernel_rfl) ?_
 clear hkd
 go_wp2_with fail
 go_loopw [16] (fun a W=>∃ i:Nat,i≤22∧a=.int .i64 (i:Int)∧Hid (NmI T rb u w0 s sb sh r i W)) (fun a _=>22 - (intOf a).toNat)
 case atStart=>exact ⟨0,by omega,rfl,HI⟩
 case round =>
  clear HI
  obtain ⟨i,hi,rfl,HK⟩:=hrel
  by_cases hlt:i < 22
  ·have hix:=index_val i hlt
   have hlt':(i:Int) < 22:=by omega
   obtain ⟨hn,hr,hsh⟩:=HK.out
   have HYi:Hid (hitK sh r i=true→∀ W,Rd T rb u w0 (ps s r.length) W→NmQ p sh T rb u w0 s (.returned (.int .i64 (i:Int))) W):=fun hh=>HY.out i (fnd_hit sh r i hlt hn hh)
   have HNx:Hid (hitK sh r i=false→∀ W,Rd T rb u w0 s W→Shp sb sh W→NmI T rb u w0 s sb sh r (i+1) W):=fun hh W hr hsh=>⟨fun j hj=>by
    by_cases e:j=i
    ·rw [e];exact hh
    ·exact hn j (by omega),hr,hsh⟩
   have HH:Hid (∀ j (hj:j < sh.length),(kwA i).1=sh[j]→(kwA i).2=r→hitK sh r i=true):=fun j hj=>hit_of sh r i j hj
   have HHn:Hid ((∀ j (hj:j < sh.length),(kwA i).1=sh[j]→(kwA i).2≠r)→hitK sh r i=false):=hit_not sh r i
   have HR:Hid (Rd T rb u w0 s (wr.alloc (.cells #[.int .i64 ((kwA i).1:Int),.string ⟨(kwA i).2.toArray⟩] 163))):=hr.below (bel1 _ _)
   have HS:Hid (Shp sb sh (wr.alloc (.cells #[.int .i64 ((kwA i).1:Int),.string ⟨(kwA i).2.toArray⟩] 163))):=hsh.below (bel1 _ _)
   clear HK hn hr hsh HY HN HFl
   generalize kwA i=q at *
   obtain ⟨q1,q2⟩:=q
   dsimp only at *
   generalize hitK sh r i=hb at *
   have hN:=new_1 wr (.cells #[.int .i64 (q1:Int),.string ⟨q2.toArray⟩] 163)
   have hcl:(wr.alloc (.cells #[.int .i64 (q1:Int),.string ⟨q2.toArray⟩] 163)).cell? ⟨wr.heap.size,0,none⟩=some (.int .i64 (q1:Int))∧(wr.alloc (.cells #[.int .i64 (q1:Int),.string ⟨q2.toArray⟩] 163)).cell? ⟨wr.heap.size,1,none⟩=some (.string ⟨q2.toArray⟩):=by
    constructor <;> simp only [World.cell?,hN] <;> rfl
   obtain ⟨cl0,cl1⟩:=hcl
   clear hN
   go_upto_region 5 with fail
   generalize hW:wr.alloc (.cells #[.int .i64 (q1:Int),.string ⟨q2.toArray⟩] 163)=W at *
   generalize wr.heap.size=g at *
   clear hW
   go_wp2_with fail
   go_loopw [22] (fun a W'=>∃ j:Nat,j≤3∧a=.int .i64 (j:Int)∧Hid (∀ j' (hj:j' < sh.length),j' < j→q1=sh[j']→q2≠r)∧W'=W) (fun a _=>3 - (intOf a).toNat)
   case atStart=>exact ⟨0,by omega,rfl,(fun j' hj hj2=>absurd hj2 (by omega)),rfl⟩
   case round =>
    obtain ⟨j,hj,rfl,HJ,hw⟩:=hrel
    subst wr
    by_cases hj3:j < 3
    ·have hj':(j:Int) < 3:=by omega
     have hjs:j < sh.length:=by omega
     have hij:=index_sh sb 3 3 j (j:Int) rfl hj3
     have cs:=HS.out j hjs
     have HHj:Hid (q1=sh[j]→q2=r→hb=true):=HH.out j hjs
     have HJx:Hid ((q1=sh[j]→q2≠r)→∀ j' (hj:j' < sh.length),j' < j+1→q1=sh[j']→q2≠r):=fun hh j' h1 h2=>by
      by_cases e:j'=j
      ·subst e;exact hh
      ·exact HJ.out j' h1 (by omega)
     clear HJ HH HHn
     generalize sh[j]=sj at *
     by_cases e1:q1=sj
     ·have e1':((q1:Int) == (sj:Int))=true:=by rw [beq_iff_eq,e1]
      by_cases e2:q2=r
      ·have HF:=hid_of (HYi.out (HHj.out e1 e2))
       have e2':(q2 == r)=true:=beq_iff_eq.2 e2
       clear HYi HHj HNx HJx e1 e2
       as_aux_lemma =>
        go_wp2_with fail
        refine Calls.mono (HPs.out _ HR.out r.length (by omega)) ?_
        rintro e w3 ⟨rfl,hr3⟩
        have HF3:=hid_of (HF.out w3 hr3)
        clear hr3 HF
        go_wp2_with fail
        go_ret
        exact HF3.out
      ·have e2':(q2 == r)=false:=beq_eq_false_iff_ne.2 e2
       have HJ2:=hid_of (HJx.out (fun _=>e2))
       clear HYi HHj HNx HJx e1 e2
       as_aux_lemma =>
        go_wp2_with fail
        exact ⟨⟨j+1,by omega,by go_num,HJ2.out,trivial⟩,by simp [intOf];omega⟩
     ·have e1':((q1:Int) == (sj:Int))=false:=by rw [beq_eq_false_iff_ne];omega
      have HJ2:=hid_of (HJx.out (fun h=>absurd h e1))
      clear HYi HHj HNx HJx e1
      as_aux_lemma =>
       go_wp2_with fail
       exact ⟨⟨j+1,by omega,by go_num,HJ2.out,trivial⟩,by simp [intOf];omega⟩
    ·have hj':¬ (j:Int) < 3:=by omega
     have HI2:Hid (NmI T rb u w0 s sb sh r (i+1) W):=HNx.out (HHn.out (fun j' h1=>HJ.out j' h1 (by omega))) W HR.out HS.out
     clear HJ HH HHn HYi HNx
     as_aux_lemma =>
      go_wp2_with fail
      exact ⟨⟨i+1,by omega,by go_num,HI2.out⟩,by simp [intOf];omega⟩
  ·obtain rfl:i=22:=by omega
   have HR:Hid (Rd T rb u w0 s wr):=HK.out.2.1
   have HF:=hid_of (HN.out (fnd_no sh r HK.out.1))
   have ca:=(four_cells HR.out.at_).1.2.1
   clear HK HN HY
   go_wp2_with fail
   refine Calls.mono (HFl.out _ HR.out) ?_
   rintro e w3 ⟨rfl,hr3⟩
   have HF3:=hid_of (HF.out w3 hr3)
   clear hr3 HF
   go_wp2_with fail
   go_ret
   exact HF3.out
end Go.Proofs.YtlgkfeeclgcgbaaGreatDoor.Ru
/- RULES: THE LIBRARY'S ParseInt AT A ROW OF DIGITS. Own work of the verifier. -/
set_option maxRecDepth 100000
set_option maxHeartbeats 8000000
namespace Go.Proofs.YtlgkfeeclgcgbaaGreatDoor.Ru
open Go.RowKit Me
theorem valA_mono (l:List UInt8):∀ n:Nat,n≤l.foldl (fun n c=>n*10+(c.toNat - 48)) n:=by
 induction l with
 | nil=>intro n;exact Nat.le_refl _
 | cons c l ih=>intro n;exact Nat.le_trans (show n≤n*10+(c.toNat - 48) by omega) (ih _)
theorem valD_take (l:List UInt8) (i:Nat):valD (l.take i)≤valD l:=by
 have h:valD l=(l.drop i).foldl (fun n c=>n*10+(c.toNat - 48)) (valD (l.take i)):=by
  unfold valD
  rw [← List.foldl_append,List.take_append_drop]
 rw [h]
 exact valA_mono _ _
theorem valD_succ (l:List UInt8) (i:Nat) (h:i < l.length):valD (l.take (i+1))=valD (l.take i)*10+(l[i].toNat - 48):=by
 unfold valD
 rw [List.take_succ_eq_append_getElem h,List.foldl_append]
 rfl
def UiQ (l:List UInt8) (e:Ending):Prop:=(valD l < 18446744073709551616∧e=.returned (.tuple #[.int .u64 (valD l:Int),.nilIface]))∨(18446744073709551616≤valD l∧e=.returned (.tuple #[.int .u64 18446744073709551615,.iface 240 (.int .i64 1)]))
theorem puint_any (l:List UInt8) (h0:l≠[]) (hd:∀ c ∈ l,isDg c=true) (hl:l.length≤65536) (w:World) :
  Calls Tryz.prog 176 #[.string ⟨l.toArray⟩,.int .i64 10,.int .i64 64] w fun e w'=>UiQ l e∧Below w.heap.size w w':=by
 have hne:(l == [])=false:=beq_eq_false_iff_ne.2 h0
 have kc:(convert 9 146 (.string ⟨l.toArray⟩)).run Tryz.prog w=.ok (.slice (some ⟨w.heap.size,0,none⟩) l.length (grownCap w l.length 0 5)) (Lib.bytesWorld w 5 ⟨l.toArray⟩):=by
  have:=Lib.run_convert_string_bytes (P:=Tryz.prog) w 9 146 5 ⟨l.toArray⟩ Tryz.underlying9 Tryz.underlying146 Tryz.underlying5
  rw [show (ByteArray.mk l.toArray).size=l.length by show l.toArray.size=_;simp] at this
  exact this
 have hcl:∀ j (h:j < l.length),(Lib.bytesWorld w 5 ⟨l.toArray⟩).cell? ⟨w.heap.size,j,none⟩=some (.int .u8 (l[j].toNat:Int)):=fun j h=>by
  rw [Lib.bytesWorld_cell w 5 ⟨l.toArray⟩ j (by show j < l.toArray.size;simpa using h)]
  simp [List.getD,h]
 have hbl:=Lib.bytesWorld_below w 5 ⟨l.toArray⟩
 have HC:Hid (∀ j (h:j < l.length),(Lib.bytesWorld w 5 ⟨l.toArray⟩).cell? ⟨w.heap.size,j,none⟩=some (.int .u8 (l[j].toNat:Int))):=hcl
 have HB:=hid_of hbl
 generalize grownCap w l.length 0 5=cap at kc
 generalize Lib.bytesWorld w 5 ⟨l.toArray⟩=W at *
 generalize w.heap.size=g at *
 have hl':(l.length:Int)≤65536:=by omega
 have HD:=hid_of hd
 clear hcl hbl hd h0
 go_enter Tryz.func176,Tryz.ntmps176
 go_wp2_with fail
 go_loopw [12,13,101] (fun q n a W'=>∃ i:Nat,i≤l.length∧q=.bool false∧a=.int .i64 (i:Int)∧n=.int .u64 (valD (l.take i):Int)∧Hid (valD (l.take i) < 18446744073709551616)∧W'=W) (fun _ _ a _=>l.length - (intOf a).toNat)
 case atStart=>exact ⟨0,by omega,rfl,rfl,rfl,(show valD [] < _ by decide),rfl⟩
 case round =>
  obtain ⟨i,hi,rfl,rfl,rfl,HV,hw⟩:=hrel
  subst wr
  by_cases hlt:i < l.length
  ·have hlt':(i:Int) < (l.length:Int):=by omega
   have c0:=HC.out i hlt
   have hs:=valD_succ l i hlt
   have hdi:=HD.out l[i] (List.getElem_mem hlt)
   have hle:=valD_take l (i+1)
   have HT:Hid (∀ m,valD (l.take (i+1))=m→18446744073709551616≤m→UiQ l (.returned (.tuple #[.int .u64 18446744073709551615,.iface 240 (.int .i64 1)]))):=fun m hm h=>Or.inr ⟨by omega,rfl⟩
   have hv:=HV.out
   unfold isDg at hdi
   rw [Bool.and_eq_true,decide_eq_true_eq,decide_eq_true_eq] at hdi
   have hix:(Instr.indexAt 146 (.slice (some ⟨g,0,none⟩) l.length cap) (.int .i64 (i:Int))).run Tryz.prog W=.ok (.pointer (some ⟨g,i,none⟩)) W:=by
    have he:Tryz.prog.elem 146=5:=by simp [Program.elem,Tryz.underlying146]
    have hs:(sizeOf 5).run Tryz.prog W=.ok 1 W:=by simp [sizeOf];rfl
    rw [run_indexAt_slice W 146 ⟨g,0,none⟩ l.length cap .i64 (i:Int) (by rw [he];exact Tryz.underlying146),if_pos (by omega),he,hs]
    simp [Addr.add]
    omega
   generalize hvi:valD (l.take i)=v at *
   generalize hvs:valD (l.take (i+1))=u at *
   generalize l[i].toNat=c at *
   have d1:(48:Int)≤(c:Int):=by omega
   have d2:(c:Int)≤57:=by omega
   obtain ⟨d,hd⟩:∃ d,d=c - 48:=⟨_,rfl⟩
   have w1:IntKind.u8.wrap ((c:Int) - 48)=(d:Int):=by rw [IntKind.wrap_u8];omega
   have hd10:(d:Int) < 10:=by omega
   have hd10':¬ (10:Int)≤(d:Int):=by omega
   have hud:u=v*10+d:=by omega
   have hvl:=hid_of hvs
   have hvi':=hid_of hvi
   clear hs hdi hle HV hd hvs hvi HD HC
   by_cases q1:v < 1844674407370955162
   ·have i1:¬ (1844674407370955162:Int)≤(v:Int):=by omega
    obtain ⟨m,hm⟩:∃ m,m=v*10:=⟨_,rfl⟩
    have w2:IntKind.u64.wrap ((v:Int)*10)=(m:Int):=by rw [IntKind.wrap_u64];omega
    by_cases q2:u < 18446744073709551616
    ·have w3:IntKind.u64.wrap ((m:Int)+(d:Int))=(u:Int):=by rw [IntKind.wrap_u64];omega
     have i2:¬ (u:Int) < (m:Int):=by omega
     have i3:¬ (18446744073709551615:Int) < (u:Int):=by omega
     have HU:=hid_of q2
     clear hud hm q1 q2 hv HT hvi'
     as_aux_lemma =>
      go_wp2_with fail
      exact ⟨⟨i+1,by omega,rfl,by go_num,by rw [hvl.out],by rw [hvl.out];exact HU,trivial⟩,by simp [intOf];omega⟩
    ·have hw:u - 18446744073709551616 < m:=by omega
     obtain ⟨x,hx⟩:∃ x,x=u - 18446744073709551616:=⟨_,rfl⟩
     have w3:IntKind.u64.wrap ((m:Int)+(d:Int))=(x:Int):=by rw [IntKind.wrap_u64];omega
     have i2:(x:Int) < (m:Int):=by omega
     have HF:=hid_of (HT.out u rfl (by omega))
     clear hud hm q1 q2 hv HT hvi' hw hx hvl
     as_aux_lemma =>
      go_wp2_with fail
      go_ret2
      exact ⟨HF.out,HB.out⟩
   ·have i1:(1844674407370955162:Int)≤(v:Int):=by omega
    have HF:=hid_of (HT.out u rfl (by omega))
    clear hud q1 hv HT hvi' hvl
    as_aux_lemma =>
     go_wp2_with fail
     go_ret2
     exact ⟨HF.out,HB.out⟩
  ·obtain rfl:i=l.length:=by omega
   have HF:Hid (UiQ l (.returned (.tuple #[.int .u64 (valD (l.take l.length):Int),.nilIface]))):=by
    have hv:=HV.out
    rw [List.take_length] at hv ⊢
    exact Or.inl ⟨hv,rfl⟩
   generalize valD (l.take l.length)=v at *
   clear HV HC HD
   go_wp2_with fail
   go_ret2
   exact ⟨HF.out,HB.out⟩
def IiQ (l:List UInt8) (e:Ending):Prop:=(l=[]∧e=.returned (.tuple #[.int .i64 0,.iface 240 (.int .i64 2)]))∨(l≠[]∧valD l < 9223372036854775808∧e=.returned (.tuple #[.int .i64 (valD l:Int),.nilIface]))∨(9223372036854775808≤valD l∧e=.returned (.tuple #[.int .i64 9223372036854775807,.iface 240 (.int .i64 1)]))
theorem pint_in (l:List UInt8) (hd:∀ c ∈ l,isDg c=true) (hl:l.length≤65536) (w:World) :
  Calls Tryz.prog 163 #[.string ⟨l.toArray⟩,.int .i64 10,.int .i64 64] w fun e w'=>IiQ l e∧Below w.heap.size w w':=by
 have hl':(l.length:Int)≤65536:=by omega
 by_cases h0:l=[]
 ·have hne:(l == [])=true:=beq_iff_eq.2 h0
  have HF:Hid (IiQ l (.returned (.tuple #[.int .i64 0,.iface 240 (.int .i64 2)]))):=Or.inl ⟨h0,rfl⟩
  clear h0 hd
  go_enter Tryz.func163,Tryz.ntmps163
  go_wp2_with fail
  go_ret2
  exact ⟨HF.out,Below.refl _ _⟩
 ·have hne:(l == [])=false:=beq_eq_false_iff_ne.2 h0
  have HU:La.HidC _ _ _ _ _:=puint_any l h0 hd hl w
  have h1:0 < l.length:=List.length_pos_iff.2 h0
  have h1':(0:Int) < (l.length:Int):=by omega
  have hB:0 < (ByteArray.mk l.toArray).size:=by show 0 < l.toArray.size;simpa using h1
  have hbe:(ByteArray.mk l.toArray)[0]'hB=l[0]:=rfl
  have hd0:=hd l[0] (List.getElem_mem h1)
  unfold isDg at hd0
  rw [Bool.and_eq_true,decide_eq_true_eq,decide_eq_true_eq] at hd0
  have b1:((l[0].toNat:Int) == 43)=false:=by rw [beq_eq_false_iff_ne];omega
  have b2:((l[0].toNat:Int) == 45)=false:=by rw [beq_eq_false_iff_ne];omega
  have HQ1:Hid (valD l < 9223372036854775808→IiQ l (.returned (.tuple #[.int .i64 (valD l:Int),.nilIface]))):=fun h=>Or.inr (Or.inl ⟨h0,h,rfl⟩)
  have HQ2:Hid (9223372036854775808≤valD l→IiQ l (.returned (.tuple #[.int .i64 9223372036854775807,.iface 240 (.int .i64 1)]))):=fun h=>Or.inr (Or.inr ⟨h,rfl⟩)
  have hneq:∀ W,(binOp .neq 215 (.iface 240 (.int .i64 1)) (.iface 240 (.int .i64 1))).run Tryz.prog W=.ok (.bool false) W:=fun W=>by rfl
  clear hd hd0 h0
  go_enter Tryz.func163,Tryz.ntmps163
  go_wp2_with fail
  refine Calls.mono HU.out ?_
  rintro e w1 ⟨hq,hb⟩
  have HB:=hid_of hb
  clear hb HU
  rcases hq with ⟨hv,rfl⟩ | ⟨hv,rfl⟩
  ·generalize valD l=v at *
   by_cases q:v < 9223372036854775808
   ·have i1:decide ((9223372036854775808:Int)≤(v:Int))=false:=decide_eq_false (by omega)
    have i2:IntKind.i64.wrap (v:Int)=(v:Int):=by rw [IntKind.wrap_i64];omega
    have HF:=hid_of (HQ1.out q)
    clear HQ1 HQ2 hv q
    as_aux_lemma =>
     go_wp2_with fail
     go_ret2
     exact ⟨HF.out,HB.out⟩
   ·have i1:decide ((9223372036854775808:Int)≤(v:Int))=true:=decide_eq_true (by omega)
    have HF:=hid_of (HQ2.out (by omega))
    clear HQ1 HQ2 hv q
    as_aux_lemma =>
     go_wp2_with fail
     go_ret2
     exact ⟨HF.out,HB.out⟩
  ·have HF:=hid_of (HQ2.out (by omega))
   clear HQ1 HQ2 hv
   as_aux_lemma =>
    go_wp2_with fail
    go_ret2
    exact ⟨HF.out,HB.out⟩
end Go.Proofs.YtlgkfeeclgcgbaaGreatDoor.Ru
/- RULES: THE LIBRARY'S ParseInt, the outer one. Own work of the verifier. -/
set_option maxRecDepth 100000
set_option maxHeartbeats 1000000
namespace Go.Proofs.YtlgkfeeclgcgbaaGreatDoor.Ru
open Go.RowKit Me
structure Errs (w:World):Prop where
 syn:∃ ev,w.cell? ⟨3,0,none⟩=some ev∧(ev=.nilIface∨∃ te pe,ev=.iface te pe)
 rng:∃ ev,w.cell? ⟨4,0,none⟩=some ev∧(ev=.nilIface∨∃ te pe,ev=.iface te pe)
theorem Errs.below {w w':World} (h:Errs w) (hb:Below w.heap.size w w'):Errs w':=by
 obtain ⟨e1,c1,k1⟩:=h.syn
 obtain ⟨e2,c2,k2⟩:=h.rng
 exact ⟨⟨e1,(hb.cell (La.lt_of_cell c1)).trans c1,k1⟩,⟨e2,(hb.cell (La.lt_of_cell c2)).trans c2,k2⟩⟩
def PiQ (l:List UInt8) (e:Ending):Prop:=(l≠[]∧valD l < 9223372036854775808∧e=.returned (.tuple #[.int .i64 (valD l:Int),.nilIface]))∨((l=[]∨9223372036854775808≤valD l)∧∃ (z:Int) (t:TypeId) (x:Value),0≤z∧z < 9223372036854775808∧e=.returned (.tuple #[.int .i64 z,.iface t x]))
theorem pint_any (l:List UInt8) (hd:∀ c ∈ l,isDg c=true) (hl:l.length≤65536) (w:World) (hE:Errs w) :
  Calls Tryz.prog 149 #[.string ⟨l.toArray⟩,.int .i64 10,.int .i64 64] w fun e w'=>PiQ l e∧Below w.heap.size w w':=by
 have hlim:(ByteArray.mk l.toArray).size≤281474976710656:=by show l.toArray.size≤_;simp;omega
 go_enter Tryz.func149,Tryz.ntmps149
 go_wp2_with fail
 refine (pint_in l hd hl w).mono ?_
 rintro e w1 ⟨hq,hb1⟩
 have hE1:=hE.below hb1
 obtain ⟨e1,s1,k1⟩:=hE1.syn
 obtain ⟨e2,s2,k2⟩:=hE1.rng
 have HS:Hid _:=fun fn base bits=>Tryz.strconv_toError_syntax fn ⟨l.toArray⟩ base bits e1 w1 hlim s1 k1
 have HRr:Hid _:=fun fn base bits=>Tryz.strconv_toError_range fn ⟨l.toArray⟩ base bits e2 w1 hlim s2 k2
 have HB:=hid_of hb1
 clear hE hE1 s1 s2 k1 k2 hb1 hd
 rcases hq with ⟨h0,rfl⟩ | ⟨h0,hv,rfl⟩ | ⟨hv,rfl⟩
 ·have H0:=hid_of h0
  clear h0
  as_aux_lemma =>
   go_wp2_with fail
   with_reducible refine Calls.mono (HS.out ⟨#[80,97,114,115,101,73,110,116]⟩ 10 64) ?_
   rintro e w2 ⟨N,rfl,hN,hc,hb2⟩
   go_wp2_with fail
   go_ret2
   exact ⟨Or.inr ⟨Or.inl H0.out,0,_,_,by decide,by decide,rfl⟩,bt HB.out hb2⟩
 ·have HF:Hid (PiQ l (.returned (.tuple #[.int .i64 (valD l:Int),.nilIface]))):=Or.inl ⟨h0,hv,rfl⟩
  clear h0 hv
  as_aux_lemma =>
   go_wp2_with fail
   go_ret2
   exact ⟨HF.out,HB.out⟩
 ·as_aux_lemma =>
   go_wp2_with fail
   with_reducible refine Calls.mono (HRr.out ⟨#[80,97,114,115,101,73,110,116]⟩ 10 64) ?_
   rintro e w2 ⟨N,rfl,hN,hc,hb2⟩
   go_wp2_with fail
   go_ret2
   exact ⟨Or.inr ⟨Or.inr hv,9223372036854775807,_,_,by decide,by decide,rfl⟩,bt HB.out hb2⟩
end Go.Proofs.YtlgkfeeclgcgbaaGreatDoor.Ru
/- RULES: THE READER: digits, count, share, window. Own work of the verifier. -/
set_option maxRecDepth 100000
set_option maxHeartbeats 2000000
namespace Go.Proofs.YtlgkfeeclgcgbaaGreatDoor.Ru
open Go.RowKit Go.Sort Me
theorem bel_grow (w:World) (k:Nat) (os:Array Obj):Below w.heap.size w (grow (w.drewN k) os):=by
 refine (bel_dn (Below.refl _ _) k).trans ⟨rfl,rfl,rfl,by simp [grow],fun i hi=>?_⟩
 have e:(w.drewN k).heap=w.heap:=by
  clear hi
  induction k with
  | zero=>rfl
  | succ k ih=>exact ih
 show ((w.drewN k).heap++os)[i]? =_
 rw [e]
 exact Array.getElem?_append_left hi
structure Env (W:World):Prop where
 kd:Kd W
 er:Errs W
 gl:Rl.Glob2 W
theorem Env.below {W W1:World} (h:Env W) (hb:Below W.heap.size W W1):Env W1:=⟨h.kd.below hb,h.er.below hb,h.gl.below hb⟩
theorem dig_any (n:Int) (h0:-9223372036854775808≤n) (h1:n≤9223372036854775807) (w:World) (he:Env w) :
  Calls Tryz.prog 150 #[.int .i64 n] w fun e w'=>e=.returned (.string ⟨(Lib.itoa n).toArray⟩)∧Below w.heap.size w w':=by
 have HF:La.HidC _ _ _ _ _:=Tryz.strconv_FormatInt_10 n h0 h1 w he.gl.glob.tab
 clear h0 h1 he
 go_enter Tryz.func150,Tryz.ntmps150
 go_wp2_with fail
 refine (HF.out).mono ?_
 rintro e w1 ⟨rfl,k,os,rfl⟩
 have HB:=hid_of (bel_grow w k os)
 generalize grow (w.drewN k) os=w1 at *
 go_wp2_with fail
 go_ret
 exact ⟨rfl,HB.out⟩
def CtQ (T:List UInt8) (rb:Nat) (u w0:World) (s:St) (e:Ending) (W:World):Prop:=∃ z:Int,e=.returned (.int .i64 z)∧(0≤z∧z < 9223372036854775808)∧((cntF T s).2.e=0→z=((cntF T s).1:Int))∧Rd T rb u w0 (cntF T s).2 W
theorem all_while (p:UInt8→Bool) (l:List UInt8):∀ c ∈ l.takeWhile p,p c=true:=by
 induction l with
 | nil=>intro c hc;cases hc
 | cons a l ih =>
  intro c hc
  rw [List.takeWhile_cons] at hc
  by_cases k:p a=true
  ·rw [if_pos k] at hc
   rcases List.mem_cons.1 hc with rfl | hc
   ·exact k
   ·exact ih c hc
  ·rw [if_neg k] at hc;cases hc
theorem count_any {T:List UInt8} {rb:Nat} {u w0:World} {s:St} {w:World} (h:Rd T rb u w0 s w) (ho:Ok T s) (he:Env u) :
  Calls Tryz.prog 127 #[.pointer (some ⟨rb,0,none⟩)] w fun e w'=>CtQ T rb u w0 s e w':=by
 have HRow:La.HidC _ _ _ _ _:=row_any h ho 93 isDg tells_dg
 have hrl:=rowF_le isDg T s
 have hrT:=rst_le T s
 have hT:=ho.t
 have hda:∀ c ∈ rowF isDg T s,isDg c=true:=all_while isDg _
 have hl:(rowF isDg T s).length≤65536:=by omega
 have HPI:Hid (∀ W,Rd T rb u w0 s W→Calls Tryz.prog 149 #[.string ⟨(rowF isDg T s).toArray⟩,.int .i64 10,.int .i64 64] W fun e w'=>PiQ (rowF isDg T s) e∧Below W.heap.size W w'):=fun W h=>pint_any _ hda hl W (he.er.below h.st)
 have HD:Hid (∀ n W,Rd T rb u w0 s W→n < 9223372036854775808→Calls Tryz.prog 150 #[.int .i64 ((n:Nat):Int)] W fun e w'=>e=.returned (.string ⟨(Lib.itoa (n:Int)).toArray⟩)∧Below W.heap.size W w'):=fun n W h hn=>dig_any _ (by omega) (by omega) W (he.below h.st)
 have HPs:Hid (∀ s' W,Rd T rb u w0 s' W→Ok T s'→Calls Tryz.prog 101 #[.pointer (some ⟨rb,0,none⟩),.int .i64 ((rowF isDg T s).length:Int)] W fun r w'=>r=.returned (.tuple #[])∧Rd T rb u w0 (ps s' (rowF isDg T s).length) w'):=fun s' W h ho=>pass_any h ho _ hl
 have HFl:Hid (∀ W,Rd T rb u w0 s W→Calls Tryz.prog 59 #[.pointer (some ⟨rb,0,none⟩),.int .i64 5,.int .i64 (s.a:Int)] W fun r w'=>r=.returned (.tuple #[])∧Rd T rb u w0 (fl s 5 s.a) w'):=fun W h=>fail_any h 5 s.a
 have HOk:=hid_of ho
 have HOf:Hid (Ok T (fl s 5 s.a)):=ho.fl (fun _=>ho.a)
 have HY:Hid (∀ n,decN (rowF isDg T s)=some n→n < 9223372036854775808→∀ W,Rd T rb u w0 (ps s (rowF isDg T s).length) W→CtQ T rb u w0 s (.returned (.int .i64 (n:Int))) W):=fun n hn hb W hr=>by
  unfold CtQ cntF
  rw [hn]
  exact ⟨_,rfl,⟨by omega,by omega⟩,fun _=>rfl,hr⟩
 have HN:Hid (decN (rowF isDg T s)=none→∀ z:Int,0≤z→z < 9223372036854775808→∀ W,Rd T rb u w0 (ps (fl s 5 s.a) (rowF isDg T s).length) W→CtQ T rb u w0 s (.returned (.int .i64 z)) W):=fun hn z z0 z1 W hr=>by
  rw [ps_err (fl_e _ _ _ (by decide))] at hr
  unfold CtQ cntF
  rw [hn]
  exact ⟨_,rfl,⟨z0,z1⟩,fun h=>absurd h (fl_e _ _ _ (by decide)),hr⟩
 obtain ⟨r,hr⟩:∃ r,r=rowF isDg T s:=⟨_,rfl⟩
 rw [← hr] at HRow HPI HPs HY HN hl
 have HRn:Hid (∀ n,Rd T rb u w0 s (w.drewN n)):=fun n=>h.below (bel_dn (Below.refl _ _) n)
 have hl':(r.length:Int)≤65536:=by omega
 clear h ho he hrl hrT hT hda hr
 go_enter Tryz.func127,Tryz.ntmps127
 go_wp2_with fail
 refine (HRow.out).mono ?_
 rintro e w1 ⟨rfl,m,rfl⟩
 have HR1:=hid_of (HRn.out m)
 clear HRn HRow
 generalize w.drewN m=w1 at *
 go_wp2_with fail
 refine Calls.mono (HPI.out w1 HR1.out) ?_
 rintro e w2 ⟨hq,hb2⟩
 have HR2:=hid_of (HR1.out.below hb2)
 clear HR1 HPI hb2
 rcases hq with ⟨h0,hv,rfl⟩ | ⟨hv,z,t,x,z0,z1,rfl⟩
 ·by_cases hi:Lib.itoa (valD r:Int)=r
  ·have hi':(Lib.itoa (valD r:Int) == r)=true:=beq_iff_eq.2 hi
   have HF:=hid_of (HY.out (valD r) (by unfold decN;rw [if_pos ⟨h0,hv,hi⟩]) hv)
   have D:La.HidC _ _ _ _ _:=HD.out (valD r) w2 HR2.out hv
   clear HY HN h0 hv HFl HOf HD hi
   generalize Lib.itoa (valD r:Int)=I at *
   generalize valD r=v at *
   as_aux_lemma =>
    go_wp2_with fail
    refine (D.out).mono ?_
    rintro e w3 ⟨rfl,hb3⟩
    have HR3:=hid_of (HR2.out.below hb3)
    clear D HR2 hb3
    go_wp2_with fail
    refine Calls.mono (HPs.out _ w3 HR3.out HOk.out) ?_
    rintro e w4 ⟨rfl,hr4⟩
    have HF4:=hid_of (HF.out w4 hr4)
    clear HF hr4
    go_wp2_with fail
    go_ret
    exact HF4.out
  ·have hi':(Lib.itoa (valD r:Int) == r)=false:=beq_eq_false_iff_ne.2 hi
   have HF:=hid_of (HN.out (by unfold decN;rw [if_neg (fun k=>hi k.2.2)]) (valD r) (by omega) (by omega))
   have D:La.HidC _ _ _ _ _:=HD.out (valD r) w2 HR2.out hv
   clear HY HN h0 hv HOk HD hi
   generalize Lib.itoa (valD r:Int)=I at *
   generalize valD r=v at *
   as_aux_lemma =>
    go_wp2_with fail
    refine (D.out).mono ?_
    rintro e w3 ⟨rfl,hb3⟩
    have HR3:=hid_of (HR2.out.below hb3)
    have ca:=(four_cells HR3.out.at_).1.2.1
    clear D HR2 hb3
    go_wp2_with fail
    refine Calls.mono (HFl.out w3 HR3.out) ?_
    rintro e w4 ⟨rfl,hr4⟩
    have HR4:=hid_of hr4
    clear hr4 ca HR3
    go_wp2_with fail
    refine Calls.mono (HPs.out _ w4 HR4.out HOf.out) ?_
    rintro e w5 ⟨rfl,hr5⟩
    have HF5:=hid_of (HF.out w5 hr5)
    clear HF hr5
    go_wp2_with fail
    go_ret
    exact HF5.out
 ·have HF:=hid_of (HN.out (by
   unfold decN
   rw [if_neg]
   rintro ⟨k1,k2,-⟩
   rcases hv with hv | hv
   ·exact k1 hv
   ·omega) z z0 z1)
  have ca:=(four_cells HR2.out.at_).1.2.1
  clear HY HN hv HOk HD z0 z1
  as_aux_lemma =>
   go_wp2_with fail
   refine Calls.mono (HFl.out w2 HR2.out) ?_
   rintro e w4 ⟨rfl,hr4⟩
   have HR4:=hid_of hr4
   clear hr4 ca HR2
   go_wp2_with fail
   refine Calls.mono (HPs.out _ w4 HR4.out HOf.out) ?_
   rintro e w5 ⟨rfl,hr5⟩
   have HF5:=hid_of (HF.out w5 hr5)
   clear HF hr5
   go_wp2_with fail
   go_ret
   exact HF5.out
end Go.Proofs.YtlgkfeeclgcgbaaGreatDoor.Ru
/- RULES: THE READER: share, window. Own work of the verifier. -/
set_option maxHeartbeats 1000000
namespace Go.Proofs.YtlgkfeeclgcgbaaGreatDoor.Ru
open Go.RowKit Me
theorem share_b (n d:Int) (w:World):Calls Tryz.prog 128 #[.int .i64 n,.int .i64 d] w fun e w'=>e=.returned (.bool (shrB n d))∧w'=w:=by
 unfold shrB
 by_cases a1:1≤d
 ·rw [decide_eq_true a1]
  by_cases a2:0≤n
  ·rw [decide_eq_true a2]
   by_cases a3:n≤d
   ·rw [decide_eq_true a3]
    go_enter Tryz.func128,Tryz.ntmps128
    go_wp2_with fail
    go_ret
    exact ⟨rfl,rfl⟩
   ·rw [decide_eq_false a3]
    have a3':decide (n≤d)=false:=decide_eq_false a3
    clear a3
    go_enter Tryz.func128,Tryz.ntmps128
    go_wp2_with fail
    go_ret
    exact ⟨rfl,rfl⟩
  ·rw [decide_eq_false a2]
   have a2':decide (0≤n)=false:=decide_eq_false a2
   clear a2
   go_enter Tryz.func128,Tryz.ntmps128
   go_wp2_with fail
   go_ret
   exact ⟨rfl,rfl⟩
 ·rw [decide_eq_false a1]
  have a1':decide (1≤d)=false:=decide_eq_false a1
  clear a1
  go_enter Tryz.func128,Tryz.ntmps128
  go_wp2_with fail
  go_ret
  exact ⟨rfl,rfl⟩
theorem win_b (n:Int) (w:World):Calls Tryz.prog 131 #[.int .i64 n] w fun e w'=>e=.returned (.bool (winB n))∧w'=w:=by
 unfold winB
 by_cases a1:1≤n
 ·rw [decide_eq_true a1]
  by_cases a2:n≤4611686018427387904
  ·rw [decide_eq_true a2]
   go_enter Tryz.func131,Tryz.ntmps131
   go_wp2_with fail
   go_ret
   exact ⟨rfl,rfl⟩
  ·rw [decide_eq_false a2]
   have a2':decide (n≤4611686018427387904)=false:=decide_eq_false a2
   clear a2
   go_enter Tryz.func131,Tryz.ntmps131
   go_wp2_with fail
   go_ret
   exact ⟨rfl,rfl⟩
 ·rw [decide_eq_false a1]
  have a1':decide (1≤n)=false:=decide_eq_false a1
  clear a1
  go_enter Tryz.func131,Tryz.ntmps131
  go_wp2_with fail
  go_ret
  exact ⟨rfl,rfl⟩
def WiQ (T:List UInt8) (rb:Nat) (u w0:World) (s:St) (e:Ending) (W:World):Prop:=∃ z:Int,e=.returned (.int .i64 z)∧(0≤z∧z < 9223372036854775808)∧((winF T s).2.e=0→z=((winF T s).1:Int))∧Rd T rb u w0 (winF T s).2 W
theorem window_any {T:List UInt8} {rb:Nat} {u w0:World} {s:St} {w:World} (h:Rd T rb u w0 s w) (ho:Ok T s) (he:Env u) :
  Calls Tryz.prog 104 #[.pointer (some ⟨rb,0,none⟩)] w fun e w'=>WiQ T rb u w0 s e w':=by
 have HC:La.HidC _ _ _ _ _:=count_any h ho he
 have HB:Hid (∀ z W,Calls Tryz.prog 131 #[.int .i64 z] W fun e w'=>e=.returned (.bool (winB z))∧w'=W):=win_b
 have HFl:Hid (∀ W,Rd T rb u w0 (cntF T s).2 W→Calls Tryz.prog 59 #[.pointer (some ⟨rb,0,none⟩),.int .i64 1,.int .i64 (s.a:Int)] W fun r w'=>r=.returned (.tuple #[])∧Rd T rb u w0 (fl (cntF T s).2 1 s.a) w'):=fun W h=>fail_any h 1 s.a
 obtain ⟨⟨c0,c1,c2,c3⟩,-⟩:=four_cells h.at_
 have HW:Hid (∀ (z:Int) W,0≤z→z < 9223372036854775808→((cntF T s).2.e=0→z=((cntF T s).1:Int))→Rd T rb u w0 (if winB z then (cntF T s).2 else fl (cntF T s).2 1 s.a) W→WiQ T rb u w0 s (.returned (.int .i64 z)) W):=fun z W z0 z1 hz hr=>by
  refine ⟨z,rfl,⟨z0,z1⟩,?_,?_⟩
  ·intro h0
   unfold winF at h0
   dsimp only at h0
   refine hz ?_
   split at h0
   ·exact h0
   ·exact fl_e0 _ _ _ h0
  ·unfold winF
   dsimp only
   by_cases k:(cntF T s).2.e=0
   ·rw [← hz k];exact hr
   ·rw [fl_err k] at hr ⊢
    rw [ite_self] at hr ⊢
    exact hr
 clear h ho he
 generalize s.a=a at *
 go_enter Tryz.func104,Tryz.ntmps104
 go_wp2_with fail
 refine (HC.out).mono ?_
 rintro e w1 ⟨z,rfl,⟨z0,z1⟩,hz,hr⟩
 have HR:=hid_of hr
 cases hb:winB z
 ·have HF:Hid (∀ W,Rd T rb u w0 (fl (cntF T s).2 1 a) W→WiQ T rb u w0 s (.returned (.int .i64 z)) W):=fun W hr=>HW.out z W z0 z1 hz (by rw [hb];exact hr)
  have HBz:La.HidC _ _ _ _ _:=HB.out z w1
  rw [hb] at HBz
  clear HW hz hr hb HB HC z0 z1
  go_wp2_with fail
  refine (HBz.out).mono ?_
  rintro e w2 ⟨rfl,rfl⟩
  go_wp2_with fail
  refine Calls.mono (HFl.out _ HR.out) ?_
  rintro e w3 ⟨rfl,hr3⟩
  have HF3:=hid_of (HF.out w3 hr3)
  clear hr3 HF
  go_wp2_with fail
  go_ret
  exact HF3.out
 ·have HF:Hid (WiQ T rb u w0 s (.returned (.int .i64 z)) w1):=HW.out z w1 z0 z1 hz (by rw [hb];exact hr)
  have HBz:La.HidC _ _ _ _ _:=HB.out z w1
  rw [hb] at HBz
  clear HW hz hr hb HB HC HFl z0 z1
  go_wp2_with fail
  refine (HBz.out).mono ?_
  rintro e w2 ⟨rfl,rfl⟩
  go_wp2_with fail
  go_ret
  exact HF.out
def ShQ (T:List UInt8) (rb:Nat) (u w0:World) (s:St) (e:Ending) (W:World):Prop:=∃ x y:Int,e=.returned (.tuple #[.int .i64 x,.int .i64 y])∧((shrF T s).2.2.e=0→x=((shrF T s).1:Int)∧y=((shrF T s).2.1:Int))∧Rd T rb u w0 (shrF T s).2.2 W
theorem share_any {T:List UInt8} {rb:Nat} {u w0:World} {s:St} {w:World} (h:Rd T rb u w0 s w) (ho:Ok T s) (he:Env u) :
  Calls Tryz.prog 102 #[.pointer (some ⟨rb,0,none⟩)] w fun e w'=>ShQ T rb u w0 s e w':=by
 have HC:La.HidC _ _ _ _ _:=count_any h ho he
 obtain ⟨s1,hs1⟩:∃ s1,s1=mst T [47] (cntF T s).2:=⟨_,rfl⟩
 have ho1:Ok T s1:=by rw [hs1];exact ho.cntF.mst _
 have HM1:Hid (∀ W,Rd T rb u w0 (cntF T s).2 W→Calls Tryz.prog 95 #[.pointer (some ⟨rb,0,none⟩),.string ⟨#[47]⟩] W fun e w'=>e=.returned (.tuple #[])∧Rd T rb u w0 s1 w'):=fun W hr=>by rw [hs1];exact must_any hr ho.cntF [47] (by decide)
 have HC2:Hid (∀ W,Rd T rb u w0 s1 W→Calls Tryz.prog 127 #[.pointer (some ⟨rb,0,none⟩)] W fun e w'=>CtQ T rb u w0 s1 e w'):=fun W hr=>count_any hr ho1 he
 have HB:Hid (∀ n d W,Calls Tryz.prog 128 #[.int .i64 n,.int .i64 d] W fun e w'=>e=.returned (.bool (shrB n d))∧w'=W):=share_b
 have HFl:Hid (∀ W,Rd T rb u w0 (cntF T s1).2 W→Calls Tryz.prog 59 #[.pointer (some ⟨rb,0,none⟩),.int .i64 1,.int .i64 (s1.a:Int)] W fun r w'=>r=.returned (.tuple #[])∧Rd T rb u w0 (fl (cntF T s1).2 1 s1.a) w'):=fun W h=>fail_any h 1 s1.a
 have HM2:Hid (∀ s2 W,Rd T rb u w0 s2 W→Ok T s2→Calls Tryz.prog 95 #[.pointer (some ⟨rb,0,none⟩),.string ⟨#[44,32]⟩] W fun e w'=>e=.returned (.tuple #[])∧Rd T rb u w0 (mst T [44,32] s2) w'):=fun s2 W hr ho=>must_any hr ho [44,32] (by decide)
 have HO1:Hid (Ok T (cntF T s1).2):=ho1.cntF
 have HO2:Hid (Ok T (fl (cntF T s1).2 1 s1.a)):=ho1.cntF.fl (fun _=>ho1.a)
 have HW:Hid (∀ (x y:Int) W,((cntF T s).2.e=0→x=((cntF T s).1:Int))→((cntF T s1).2.e=0→y=((cntF T s1).1:Int))→Rd T rb u w0 (mst T [44,32] (if shrB x y then (cntF T s1).2 else fl (cntF T s1).2 1 s1.a)) W→ShQ T rb u w0 s (.returned (.tuple #[.int .i64 x,.int .i64 y])) W):=fun x y W hx hy hr=>by
  have e0:(cntF T s1).2.e=0→x=((cntF T s).1:Int)∧y=((cntF T s1).1:Int):=fun k=>⟨hx (mst_e0 _ _ _ (by rw [hs1] at k;exact cntF_e0 _ _ k)),hy k⟩
  refine ⟨x,y,rfl,?_,?_⟩
  ·intro h0
   unfold shrF at h0 ⊢
   dsimp only at h0 ⊢
   rw [← hs1] at h0 ⊢
   refine e0 ?_
   have h1:=mst_e0 _ _ _ h0
   split at h1
   ·exact h1
   ·exact fl_e0 _ _ _ h1
  ·unfold shrF
   dsimp only
   rw [← hs1]
   by_cases k:(cntF T s1).2.e=0
   ·rw [← (e0 k).1,← (e0 k).2];exact hr
   ·rw [fl_err k] at hr ⊢
    rw [ite_self] at hr ⊢
    exact hr
 clear h ho he hs1
 go_enter Tryz.func102,Tryz.ntmps102
 go_wp2_with fail
 refine (HC.out).mono ?_
 rintro e w1 ⟨x,rfl,-,hx,hr⟩
 have HX:=hid_of hx
 have HR:=hid_of hr
 clear HC hx hr
 go_wp2_with fail
 refine Calls.mono (HM1.out _ HR.out) ?_
 rintro e w2 ⟨rfl,hr2⟩
 have HR2:=hid_of hr2
 have ca:=(four_cells hr2.at_).1.2.1
 clear HR HM1 hr2 ho1
 go_wp2_with fail
 refine Calls.mono (HC2.out _ HR2.out) ?_
 rintro e w3 ⟨y,rfl,-,hy,hr3⟩
 have HR3:=hid_of hr3
 have HF0:Hid (∀ W,Rd T rb u w0 (mst T [44,32] (if shrB x y then (cntF T s1).2 else fl (cntF T s1).2 1 s1.a)) W→ShQ T rb u w0 s (.returned (.tuple #[.int .i64 x,.int .i64 y])) W):=fun W hr=>HW.out x y W HX.out hy hr
 have HBz:La.HidC _ _ _ _ _:=HB.out x y w3
 clear HR2 HC2 hr3 hy HW HX HB ca
 cases hb:shrB x y
 ·rw [hb] at HBz HF0
  clear hb
  go_wp2_with fail
  refine (HBz.out).mono ?_
  rintro e w4 ⟨rfl,rfl⟩
  go_wp2_with fail
  refine Calls.mono (HFl.out _ HR3.out) ?_
  rintro e w5 ⟨rfl,hr5⟩
  have HR5:=hid_of hr5
  clear HR3 hr5 HBz HFl
  go_wp2_with fail
  refine Calls.mono (HM2.out _ _ HR5.out HO2.out) ?_
  rintro e w6 ⟨rfl,hr6⟩
  have HF:=hid_of (HF0.out w6 hr6)
  clear HF0 hr6
  go_wp2_with fail
  go_ret2
  exact HF.out
 ·rw [hb] at HBz HF0
  clear hb
  go_wp2_with fail
  refine (HBz.out).mono ?_
  rintro e w4 ⟨rfl,rfl⟩
  go_wp2_with fail
  refine Calls.mono (HM2.out _ _ HR3.out HO1.out) ?_
  rintro e w6 ⟨rfl,hr6⟩
  have HF:=hid_of (HF0.out w6 hr6)
  clear HF0 hr6
  go_wp2_with fail
  go_ret2
  exact HF.out
end Go.Proofs.YtlgkfeeclgcgbaaGreatDoor.Ru
