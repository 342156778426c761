/- THE ARITHMETIC OF DECIMALS: prefixes of digits, and what a shift to the left carries. Own work of the verifier. -/
import Derived.Test.YtifapjammoahgaaGreatDoorRows
import Derived.RowKit3
import GoSem.PinnedTables
import Derived.Test.YtifapjammoahgaaGreatDoorSAA
import Derived.WalkMore
import Derived.Deep.DeepCutAuto
import Derived.IntWalk
import Derived.Deep.CutBlock
import Derived.Laws.ShiftsVarLaws
import Derived.Handy
import Derived.OwnWalk
namespace Go.Proofs.YtifapjammoahgaaGreatDoor.Rl
def b2nn (b:Bool):Nat:=if b then 1 else 0
def pv (D:Nat→Nat):Nat→Nat
  | 0=>0
  | i+1=>pv D i*10+(D i - 48)
theorem pv_lt (D:Nat→Nat):∀ n,(∀ i,i < n→D i≤57)→pv D n < 10 ^ n
  | 0,_=>Nat.zero_lt_one
  | n+1,h=>by
    have:=pv_lt D n (fun i hi=>h i (by omega))
    have h':=h n (by omega)
    rw [Nat.pow_succ]
    show pv D n*10+(D n - 48) < _
    omega
theorem pv_ge (D:Nat→Nat) (h0:49≤D 0):∀ n,10 ^ n≤pv D (n+1)
  | 0=>by show 1≤0*10+(D 0 - 48);omega
  | n+1=>by
    have:=pv_ge D h0 n
    rw [Nat.pow_succ]
    show _≤pv D (n+1)*10+(D (n+1) - 48)
    omega
theorem pv_low (D:Nat→Nat) (i:Nat):∀ j,pv D i*10 ^ j≤pv D (i+j)
  | 0=>by simp
  | j+1=>by
    have:=pv_low D i j
    rw [Nat.pow_succ,← Nat.mul_assoc]
    show _≤pv D (i+j)*10+(D (i+j) - 48)
    omega
theorem pv_high (D:Nat→Nat) (i:Nat):∀ j,(∀ m,m < i+j→D m≤57)→pv D (i+j) < (pv D i+1)*10 ^ j
  | 0,_=>by simp
  | j+1,h=>by
    have:=pv_high D i j (fun m hm=>h m (by omega))
    have h':=h (i+j) (by omega)
    rw [Nat.pow_succ,← Nat.mul_assoc]
    show pv D (i+j)*10+(D (i+j) - 48) < _
    omega
theorem pv_less (D S:Nat→Nat) (n L i:Nat) (hi:i < n) (hL:i < L) (hd:∀ m,m < n→D m≤57) (e:pv D i=pv S i) (hs:48≤D i) (h:D i < S i) :
    pv D n*10 ^ L < pv S L*10 ^ n:=by
  obtain ⟨a,rfl⟩:∃ a,n=i+1+a:=⟨n - i - 1,by omega⟩
  obtain ⟨b,rfl⟩:∃ b,L=i+1+b:=⟨L - i - 1,by omega⟩
  have h1:=pv_high D (i+1) a hd
  have h2:=pv_low S (i+1) b
  have h3:pv D (i+1)+1≤pv S (i+1):=by
    show pv D i*10+(D i - 48)+1≤pv S i*10+(S i - 48)
    rw [e];omega
  calc pv D (i+1+a)*10 ^ (i+1+b) < (pv D (i+1)+1)*10 ^ a*10 ^ (i+1+b):=Nat.mul_lt_mul_of_pos_right h1 (Nat.pow_pos (by decide))
    _≤pv S (i+1)*10 ^ a*10 ^ (i+1+b):=Nat.mul_le_mul_right _ (Nat.mul_le_mul_right _ h3)
    _=pv S (i+1)*10 ^ b*10 ^ (i+1+a):=by rw [Nat.mul_assoc,Nat.mul_assoc,← Nat.pow_add,← Nat.pow_add];congr 2;omega
    _≤pv S (i+1+b)*10 ^ (i+1+a):=Nat.mul_le_mul_right _ h2
theorem pv_short (D S:Nat→Nat) (n L:Nat) (h:n < L) (e:pv D n=pv S n) (hl:49≤S (L - 1)):pv D n*10 ^ L < pv S L*10 ^ n:=by
  obtain ⟨b,rfl⟩:∃ b,L=n+b+1:=⟨L - n - 1,by omega⟩
  have h2:=pv_low S n b
  have h3:pv S (n+b+1)=pv S (n+b)*10+(S (n+b) - 48):=rfl
  rw [show n+b+1 - 1=n+b from rfl] at hl
  have h4:pv S n*10 ^ b*10 < pv S (n+b+1):=by omega
  calc pv D n*10 ^ (n+b+1)=pv S n*10 ^ b*10*10 ^ n:=by rw [e,Nat.pow_succ,Nat.pow_add,Nat.mul_comm (10 ^ n),Nat.mul_assoc,Nat.mul_assoc,Nat.mul_assoc,Nat.mul_comm (10 ^ n) 10]
    _ < _:=Nat.mul_lt_mul_of_pos_right h4 (Nat.pow_pos (by decide))
theorem pv_long (D S:Nat→Nat) (n L:Nat) (h:L≤n) (e:pv D L=pv S L):pv S L*10 ^ n≤pv D n*10 ^ L:=by
  obtain ⟨a,rfl⟩:∃ a,n=L+a:=⟨n - L,by omega⟩
  have h1:=pv_low D L a
  rw [← e]
  calc pv D L*10 ^ (L+a)=pv D L*10 ^ a*10 ^ L:=by rw [Nat.pow_add,Nat.mul_assoc,Nat.mul_comm (10 ^ L)]
    _≤_:=Nat.mul_le_mul_right _ h1
def cr (D:Nat→Nat) (n k:Nat):Nat→Nat
  | 0=>0
  | j+1=>((D (n - 1 - j) - 48)*2 ^ k+cr D n k j) / 10
theorem cr_lt (D:Nat→Nat) (n k:Nat) (h:∀ i,i < n→D i≤57):∀ j,j≤n→cr D n k j < 2 ^ k
  | 0,_=>Nat.pow_pos (by decide)
  | j+1,hj=>by
    have:=cr_lt D n k h j (by omega)
    have h':=h (n - 1 - j) (by omega)
    have h2:(D (n - 1 - j) - 48)*2 ^ k≤9*2 ^ k:=Nat.mul_le_mul_right _ (by omega)
    show (_+_) / 10 < _
    omega
theorem cr_val (D:Nat→Nat) (n k:Nat):∀ j,j≤n→pv D n*2 ^ k / 10 ^ j=pv D (n - j)*2 ^ k+cr D n k j
  | 0,_=>by simp [cr]
  | j+1,hj=>by
    have ih:=cr_val D n k j (by omega)
    rw [Nat.pow_succ,← Nat.div_div_eq_div_mul,ih]
    have e:n - j=n - 1 - j+1:=by omega
    have e2:n - (j+1)=n - 1 - j:=by omega
    rw [e,e2]
    show ((pv D (n - 1 - j)*10+(D (n - 1 - j) - 48))*2 ^ k+cr D n k j) / 10=pv D (n - 1 - j)*2 ^ k+((D (n - 1 - j) - 48)*2 ^ k+cr D n k j) / 10
    rw [Nat.add_mul,show pv D (n - 1 - j)*10*2 ^ k=pv D (n - 1 - j)*2 ^ k*10 from by rw [Nat.mul_assoc,Nat.mul_comm 10,← Nat.mul_assoc]]
    omega
theorem cr_all (D:Nat→Nat) (n k:Nat):cr D n k n=pv D n*2 ^ k / 10 ^ n:=by
  rw [cr_val D n k n (Nat.le_refl _),Nat.sub_self];simp [pv]
def chD (k:Nat):Nat:=(Go.Pinned.cheatRows.getD k (0,[])).1
def chS (k:Nat):List UInt8:=(Go.Pinned.cheatRows.getD k (0,[])).2
def chF (k i:Nat):Nat:=((chS k).getD i 0).toNat
def chOk (k:Nat):Bool:=(chS k).length+chD k == k+1 && (pv (chF k) (chS k).length == 5 ^ k) && decide (10 ^ (chD k - 1)≤2 ^ k) && decide (2 ^ k≤10 ^ chD k) && (chS k).all (fun c=>decide (48≤c.toNat) && decide (c.toNat≤57)) && decide (49≤chF k ((chS k).length - 1)) && decide (1≤chD k) && decide (chD k≤19) && decide (1≤(chS k).length) && decide ((chS k).length≤60)
theorem ch_all:∀ k,k < 61→1≤k→chOk k=true:=by decide +kernel
structure Cheats (k:Nat):Prop where
  len:(chS k).length+chD k=k+1
  val:pv (chF k) (chS k).length=5 ^ k
  low:10 ^ (chD k - 1)≤2 ^ k
  high:2 ^ k≤10 ^ chD k
  dig:∀ i,i < (chS k).length→48≤chF k i∧chF k i≤57
  last:49≤chF k ((chS k).length - 1)
  one:1≤chD k
  few:chD k≤19
  some:1≤(chS k).length
  most:(chS k).length≤60
theorem cheats (k:Nat) (h0:1≤k) (h1:k≤60):Cheats k:=by
  have h:=ch_all k (by omega) h0
  unfold chOk at h
  simp only [Bool.and_eq_true,beq_iff_eq,decide_eq_true_eq,List.all_eq_true] at h
  obtain ⟨⟨⟨⟨⟨⟨⟨⟨⟨a1,a2⟩,a3⟩,a4⟩,a5⟩,a6⟩,a7⟩,a8⟩,a9⟩,a10⟩:=h
  refine ⟨a1,a2,a3,a4,fun i hi=>?_,a6,a7,a8,a9,a10⟩
  have:=a5 ((chS k)[i]) (List.getElem_mem hi)
  unfold chF
  rw [List.getD,List.getElem?_eq_getElem hi]
  exact this
theorem delta_ok (D:Nat→Nat) (n k:Nat) (less:Bool) (hn:1≤n) (hd:∀ i,i < n→D i≤57) (h0:49≤D 0) (k0:1≤k) (k1:k≤60)
    (hl:less=true→pv D n*10 ^ (chS k).length < 5 ^ k*10 ^ n) (hg:less=false→5 ^ k*10 ^ n≤pv D n*10 ^ (chS k).length) :
    pv D n*2 ^ k < 10 ^ (n+(chD k - b2nn less))∧(1≤chD k - b2nn less→10 ^ (n+(chD k - b2nn less) - 1)≤pv D n*2 ^ k):=by
  obtain ⟨len,val,low,high,dig,last,one,few,_,_⟩:=cheats k k0 k1
  have h10:5 ^ k*2 ^ k=10 ^ k:=by rw [← Nat.mul_pow]
  have hp:=pv_lt D n hd
  have hq:=pv_ge D h0 (n - 1)
  rw [show n - 1+1=n from by omega] at hq
  generalize (chS k).length=L at *
  generalize chD k=d at *
  generalize pv D n=P at *
  have h2:0 < 2 ^ k:=Nat.pow_pos (by decide)
  have h3:0 < 10 ^ L:=Nat.pow_pos (by decide)
  cases less
  · have hg:=hg rfl
    rw [show b2nn false=0 from rfl,Nat.sub_zero]
    refine ⟨?_,fun _=>?_⟩
    · rw [Nat.pow_add]
      calc P*2 ^ k < 10 ^ n*2 ^ k:=Nat.mul_lt_mul_of_pos_right hp h2
        _≤10 ^ n*10 ^ d:=Nat.mul_le_mul_left _ high
    · refine Nat.le_of_mul_le_mul_right ?_ h3
      calc 10 ^ (n+d - 1)*10 ^ L=5 ^ k*10 ^ n*2 ^ k:=by rw [Nat.mul_right_comm,h10,← Nat.pow_add,← Nat.pow_add];congr 1;omega
        _≤P*10 ^ L*2 ^ k:=Nat.mul_le_mul_right _ hg
        _=P*2 ^ k*10 ^ L:=Nat.mul_right_comm _ _ _
  · have hl:=hl rfl
    rw [show b2nn true=1 from rfl]
    refine ⟨?_,fun _=>?_⟩
    · refine Nat.lt_of_mul_lt_mul_right (a:=10 ^ L) ?_
      calc P*2 ^ k*10 ^ L=P*10 ^ L*2 ^ k:=Nat.mul_right_comm _ _ _
        _ < 5 ^ k*10 ^ n*2 ^ k:=Nat.mul_lt_mul_of_pos_right hl h2
        _=10 ^ (n+(d - 1))*10 ^ L:=by rw [Nat.mul_right_comm,h10,← Nat.pow_add,← Nat.pow_add];congr 1;omega
    · calc 10 ^ (n+(d - 1) - 1)=10 ^ (n - 1)*10 ^ (d - 1):=by rw [← Nat.pow_add];congr 1;omega
        _≤P*2 ^ k:=Nat.mul_le_mul hq low
theorem carry_ok (D:Nat→Nat) (n k e:Nat) (h1:pv D n*2 ^ k < 10 ^ (n+e)) (h2:1≤e→10 ^ (n+e - 1)≤pv D n*2 ^ k):cr D n k n < 10 ^ e∧(1≤e→10 ^ (e - 1)≤cr D n k n):=by
  rw [cr_all]
  refine ⟨?_,fun he=>?_⟩
  · rw [Nat.div_lt_iff_lt_mul (Nat.pow_pos (by decide)),← Nat.pow_add,Nat.add_comm e n];exact h1
  · rw [Nat.le_div_iff_mul_le (Nat.pow_pos (by decide)),← Nat.pow_add,show e - 1+n=n+e - 1 from by omega];exact h2 he
end Go.Proofs.YtifapjammoahgaaGreatDoor.Rl
/- DECIMALS IN MEMORY, AND trim. Own work of the verifier. -/
set_option maxRecDepth 100000
set_option maxHeartbeats 2000000
namespace Go.Proofs.YtifapjammoahgaaGreatDoor.Rl
open Go.RowKit
structure DecAt (g:Nat) (D:Nat→Nat) (n:Nat) (dp:Int) (ng tr:Bool) (w:World):Prop where
  dig:∀ i,i < 800→w.cell? ⟨g,i,none⟩=some (.int .u8 (D i:Int))
  nd:w.cell? ⟨g,800,none⟩=some (.int .i64 (n:Int))
  dp:w.cell? ⟨g,801,none⟩=some (.int .i64 dp)
  neg:w.cell? ⟨g,802,none⟩=some (.bool ng)
  tr:w.cell? ⟨g,803,none⟩=some (.bool tr)
  fr:∀ o,w.frozen? ⟨g,o,none⟩=false
def upd (D:Nat→Nat) (i v:Nat):Nat→Nat:=fun j=>if j=i then v else D j
theorem upd_same (D:Nat→Nat) (i v:Nat):upd D i v i=v:=by simp [upd]
theorem upd_other (D:Nat→Nat) (i v:Nat) {j:Nat} (h:j≠i):upd D i v j=D j:=by simp [upd,h]
theorem off_ne {g a b:Nat} (h:a≠b):(⟨g,a,none⟩:Addr)≠⟨g,b,none⟩:=fun c=>h (by injection c)
theorem DecAt.setDig {g n:Nat} {D:Nat→Nat} {dp:Int} {ng tr:Bool} {w:World} (h:DecAt g D n dp ng tr w) (i v:Nat) (hi:i < 800):DecAt g (upd D i v) n dp ng tr (w.setCell ⟨g,i,none⟩ (.int .u8 (v:Int))):=by
  refine ⟨fun j hj=>?_,?_,?_,?_,?_,fun o=>by rw [World.frozen?_setCell];exact h.fr o⟩
  · by_cases e:j=i
    · subst e;rw [World.cell?_setCell_same w _ _ (h.dig j hj),upd_same]
    · rw [World.cell?_setCell_other w _ _ _ (off_ne (fun c=>e c.symm)),upd_other D i v e];exact h.dig j hj
  · rw [World.cell?_setCell_other w _ _ _ (off_ne (by omega))];exact h.nd
  · rw [World.cell?_setCell_other w _ _ _ (off_ne (by omega))];exact h.dp
  · rw [World.cell?_setCell_other w _ _ _ (off_ne (by omega))];exact h.neg
  · rw [World.cell?_setCell_other w _ _ _ (off_ne (by omega))];exact h.tr
theorem DecAt.setNd {g n:Nat} {D:Nat→Nat} {dp:Int} {ng tr:Bool} {w:World} (h:DecAt g D n dp ng tr w) (m:Nat):DecAt g D m dp ng tr (w.setCell ⟨g,800,none⟩ (.int .i64 (m:Int))):=by
  refine ⟨fun j hj=>?_,?_,?_,?_,?_,fun o=>by rw [World.frozen?_setCell];exact h.fr o⟩
  · rw [World.cell?_setCell_other w _ _ _ (off_ne (by omega))];exact h.dig j hj
  · rw [World.cell?_setCell_same w _ _ h.nd]
  · rw [World.cell?_setCell_other w _ _ _ (off_ne (by omega))];exact h.dp
  · rw [World.cell?_setCell_other w _ _ _ (off_ne (by omega))];exact h.neg
  · rw [World.cell?_setCell_other w _ _ _ (off_ne (by omega))];exact h.tr
theorem DecAt.setDp {g n:Nat} {D:Nat→Nat} {dp:Int} {ng tr:Bool} {w:World} (h:DecAt g D n dp ng tr w) (m:Int):DecAt g D n m ng tr (w.setCell ⟨g,801,none⟩ (.int .i64 m)):=by
  refine ⟨fun j hj=>?_,?_,?_,?_,?_,fun o=>by rw [World.frozen?_setCell];exact h.fr o⟩
  · rw [World.cell?_setCell_other w _ _ _ (off_ne (by omega))];exact h.dig j hj
  · rw [World.cell?_setCell_other w _ _ _ (off_ne (by omega))];exact h.nd
  · rw [World.cell?_setCell_same w _ _ h.dp]
  · rw [World.cell?_setCell_other w _ _ _ (off_ne (by omega))];exact h.neg
  · rw [World.cell?_setCell_other w _ _ _ (off_ne (by omega))];exact h.tr
theorem DecAt.setNeg {g n:Nat} {D:Nat→Nat} {dp:Int} {ng tr:Bool} {w:World} (h:DecAt g D n dp ng tr w) (m:Bool):DecAt g D n dp m tr (w.setCell ⟨g,802,none⟩ (.bool m)):=by
  refine ⟨fun j hj=>?_,?_,?_,?_,?_,fun o=>by rw [World.frozen?_setCell];exact h.fr o⟩
  · rw [World.cell?_setCell_other w _ _ _ (off_ne (by omega))];exact h.dig j hj
  · rw [World.cell?_setCell_other w _ _ _ (off_ne (by omega))];exact h.nd
  · rw [World.cell?_setCell_other w _ _ _ (off_ne (by omega))];exact h.dp
  · rw [World.cell?_setCell_same w _ _ h.neg]
  · rw [World.cell?_setCell_other w _ _ _ (off_ne (by omega))];exact h.tr
theorem DecAt.setTr {g n:Nat} {D:Nat→Nat} {dp:Int} {ng tr:Bool} {w:World} (h:DecAt g D n dp ng tr w) (m:Bool):DecAt g D n dp ng m (w.setCell ⟨g,803,none⟩ (.bool m)):=by
  refine ⟨fun j hj=>?_,?_,?_,?_,?_,fun o=>by rw [World.frozen?_setCell];exact h.fr o⟩
  · rw [World.cell?_setCell_other w _ _ _ (off_ne (by omega))];exact h.dig j hj
  · rw [World.cell?_setCell_other w _ _ _ (off_ne (by omega))];exact h.nd
  · rw [World.cell?_setCell_other w _ _ _ (off_ne (by omega))];exact h.dp
  · rw [World.cell?_setCell_other w _ _ _ (off_ne (by omega))];exact h.neg
  · rw [World.cell?_setCell_same w _ _ h.tr]
theorem DecAt.drew {g n:Nat} {D:Nat→Nat} {dp:Int} {ng tr:Bool} {w:World} (h:DecAt g D n dp ng tr w):DecAt g D n dp ng tr w.drew:=⟨h.dig,h.nd,h.dp,h.neg,h.tr,h.fr⟩
theorem DecAt.drewN {g n:Nat} {D:Nat→Nat} {dp:Int} {ng tr:Bool} {w:World} (h:DecAt g D n dp ng tr w) (q:Nat):DecAt g D n dp ng tr (w.drewN q):=by
  induction q with
  | zero=>exact h
  | succ q ih=>exact ih.drew
def ndOf (g:Nat) (w:World):Nat:=match w.cell? ⟨g,800,none⟩ with | some (.int _ k)=>k.toNat | _=>0
theorem DecAt.ndOf {g n:Nat} {D:Nat→Nat} {dp:Int} {ng tr:Bool} {w:World} (h:DecAt g D n dp ng tr w):ndOf g w=n:=by
  unfold Go.Proofs.YtifapjammoahgaaGreatDoor.Rl.ndOf;rw [h.nd];exact Int.toNat_natCast n
def Trimmed (g:Nat) (D:Nat→Nat) (n:Nat) (dp:Int) (ng tr:Bool) (w w':World):Prop :=
  ∃ m dp',DecAt g D m dp' ng tr w'∧m≤n∧(1≤n→D 0≠48→1≤m∧dp'=dp)∧Below g w w'
theorem trim_any (g:Nat) (D:Nat→Nat) (n:Nat) (dp:Int) (ng tr:Bool) (hn:n≤800) (w:World) (h:DecAt g D n dp ng tr w) :
    Calls Tryz.prog 155 #[.pointer (some ⟨g,0,none⟩)] w fun e w'=>e=.returned (.tuple #[])∧Trimmed g D n dp ng tr w w':=by
  go_enter Tryz.func155,Tryz.ntmps155
  go_wp2_with fail
  go_loopw [] (fun wr=>∃ m:Nat,m≤n∧Hid (DecAt g D m dp ng tr wr)∧Hid (1≤n→D 0≠48→1≤m)∧Below g w wr) (fun wr=>ndOf g wr)
  case atStart=>exact ⟨n,by omega,h,fun h _=>h,Below.refl _ _⟩
  case round =>
    obtain ⟨m,hm,hI,hz,hb⟩:=hrel
    have c1:=hI.out.nd
    have f1:=hI.out.fr 800
    have f2:=hI.out.fr 801
    have c2:=hI.out.dp
    cases m with
    | zero =>
      as_aux_lemma =>
        go_wp2_with fail
        go_quiet (fail)
        go_wp2_with fail
        refine bodyPost_end (results_none rfl _ _ _) rfl ?_
        exact ⟨rfl,0,0,(hI.out.drewN nq).setDp 0,by omega,(fun h1 h2=>absurd (hz.out h1 h2) (by omega)),(Below.drewN' hb nq).setCell (Nat.le_refl _) _⟩
    | succ k =>
      have c3:=hI.out.dig k (by omega)
      by_cases hk:D k=48
      · have t48:((D k:Int) == 48)=true:=by rw [beq_iff_eq];omega
        as_aux_lemma =>
          go_wp2_with fail
          go_quiet (fail)
          go_wp2_with fail
          have hN:=(hI.out.drewN nq).setNd k
          refine ⟨⟨k,by omega,hN,fun h1 h2=>?_,(Below.drewN' hb nq).setCell (Nat.le_refl _) _⟩,?_⟩
          · rcases Nat.eq_zero_or_pos k with rfl | h
            · exact absurd hk h2
            · exact h
          · rw [hN.ndOf,hI.out.ndOf];omega
      · have t48:((D k:Int) == 48)=false:=by rw [beq_eq_false_iff_ne];omega
        as_aux_lemma =>
          go_wp2_with fail
          go_quiet (fail)
          go_wp2_with fail
          refine bodyPost_end (results_none rfl _ _ _) rfl ?_
          exact ⟨rfl,k+1,dp,hI.out.drewN nq,hm,(fun _ _=>⟨by omega,rfl⟩),Below.drewN' hb nq⟩
end Go.Proofs.YtifapjammoahgaaGreatDoor.Rl
/- prefixIsLessThan, AND leftShift. Own work of the verifier. -/
set_option maxRecDepth 100000
set_option maxHeartbeats 2000000
namespace Go.Proofs.YtifapjammoahgaaGreatDoor.Rl
open Go.RowKit
theorem chF_get (k i:Nat) (h:i < (chS k).length):(chS k)[i].toNat=chF k i:=by
  unfold chF;rw [List.getD,List.getElem?_eq_getElem h];rfl
theorem lt_of_cell2 {w:World} {b o:Nat} {v:Value} (h:w.cell? ⟨b,o,none⟩=some v):b < w.heap.size:=by
  rcases Nat.lt_or_ge b w.heap.size with h1 | h1
  · exact h1
  · unfold World.cell? at h
    rw [Array.getElem?_eq_none h1] at h
    cases h
theorem DecAt.lt {g n:Nat} {D:Nat→Nat} {dp:Int} {ng tr:Bool} {w:World} (h:DecAt g D n dp ng tr w):g < w.heap.size:=lt_of_cell2 h.nd
theorem DecAt.below {g n:Nat} {D:Nat→Nat} {dp:Int} {ng tr:Bool} {w w':World} (h:DecAt g D n dp ng tr w) (hb:Below w.heap.size w w'):DecAt g D n dp ng tr w':=by
  obtain ⟨a,b⟩:=bcell hb
  have hl:=h.lt
  exact ⟨fun i hi=>by rw [a g i hl];exact h.dig i hi,by rw [a g _ hl];exact h.nd,by rw [a g _ hl];exact h.dp,by rw [a g _ hl];exact h.neg,by rw [a g _ hl];exact h.tr,fun o=>by rw [b g o hl];exact h.fr o⟩
def LessIs (A B:Nat) (w:World) (e:Ending) (w':World):Prop:=e=.returned (.bool (decide (A < B)))∧∃ m,w'=w.drewN m
theorem LessIs.yes {A B:Nat} {w:World} {e:Ending} {w':World} (he:e=.returned (.bool true)) (h:A < B) (hw:∃ m,w'=w.drewN m):LessIs A B w e w':=⟨by rw [he,decide_eq_true h],hw⟩
theorem LessIs.no {A B:Nat} {w:World} {e:Ending} {w':World} (he:e=.returned (.bool false)) (h:B≤A) (hw:∃ m,w'=w.drewN m):LessIs A B w e w':=⟨by rw [he,decide_eq_false (by omega)],hw⟩
theorem less_any (g:Nat) (D:Nat→Nat) (n k:Nat) (dp:Int) (ng tr:Bool) (hn:n≤800) (hd:∀ i,i < n→48≤D i∧D i≤57) (k0:1≤k) (k1:k≤60) (w:World) (h:DecAt g D n dp ng tr w) :
    Calls Tryz.prog 176 #[.slice (some ⟨g,0,none⟩) n 800,.string ⟨(chS k).toArray⟩] w fun e w'=>LessIs (pv D n*10 ^ (chS k).length) (5 ^ k*10 ^ n) w e w':=by
  obtain ⟨len,val,low,high,dig,last,one,few,some1,most⟩:=cheats k k0 k1
  have HL:Hid (∀ i,i < n→i < (chS k).length→pv D i=pv (chF k) i→D i < chF k i→pv D n*10 ^ (chS k).length < 5 ^ k*10 ^ n):=fun i h1 h2 h3 h4=>by
    rw [← val];exact pv_less D (chF k) n _ i h1 h2 (fun m hm=>(hd m hm).2) h3 (hd i h1).1 h4
  have HG:Hid (∀ i,i < n→i < (chS k).length→pv D i=pv (chF k) i→chF k i < D i→5 ^ k*10 ^ n≤pv D n*10 ^ (chS k).length):=fun i h1 h2 h3 h4=>by
    rw [← val];exact Nat.le_of_lt (pv_less (chF k) D _ n i h2 h1 (fun m hm=>(dig m hm).2) h3.symm (dig i h2).1 h4)
  have HS:Hid (n < (chS k).length→pv D n=pv (chF k) n→pv D n*10 ^ (chS k).length < 5 ^ k*10 ^ n):=fun h1 h2=>by
    rw [← val];exact pv_short D (chF k) n _ h1 h2 last
  have HE:Hid ((chS k).length≤n→pv D (chS k).length=pv (chF k) (chS k).length→5 ^ k*10 ^ n≤pv D n*10 ^ (chS k).length):=fun h1 h2=>by
    rw [← val];exact pv_long D (chF k) n _ h1 h2
  have hget:=chF_get k
  clear val low high len one few dig last some1 hd
  generalize chS k=s at *
  generalize chF k=F at *
  generalize pv D n*10 ^ s.length=A at *
  generalize 5 ^ k*10 ^ n=B at *
  go_enter Tryz.func176,Tryz.ntmps176
  go_wp2_with fail
  go_loopw [5] (fun i wr=>∃ j:Nat,j≤s.length∧j≤n∧i=.int .i64 (j:Int)∧Hid (pv D j=pv F j)∧∃ q,wr=w.drewN q) (fun i _=>s.length - (intOf i).toNat)
  case atStart=>exact ⟨0,by omega,by omega,rfl,rfl,0,rfl⟩
  case round =>
    obtain ⟨j,hj,hjn,rfl,hI,q,rfl⟩:=hrel
    by_cases hlt:j < s.length
    · have hlt':(j:Int) < (s.length:Int):=by omega
      by_cases hjn':j < n
      · have hjn2:¬ (n:Int)≤(j:Int):=by omega
        have hB:j < (ByteArray.mk s.toArray).size:=by show j < s.toArray.size;simpa using hlt
        have hby:((ByteArray.mk s.toArray)[j]'hB).toNat=F j:=hget j hlt
        have c1:=h.dig j (by omega)
        by_cases e:D j=F j
        · have t1:((D j:Int) != (((ByteArray.mk s.toArray)[j]'hB).toNat:Int))=false:=by rw [bne_eq_false_iff_eq,hby];omega
          have HN:Hid (pv D (j+1)=pv F (j+1)):=by
            show pv D j*10+(D j - 48)=pv F j*10+(F j - 48)
            rw [hI.out,e]
          clear hby
          as_aux_lemma =>
            go_wp2_with fail
            go_quiet (fail)
            go_wp2_with fail
            exact ⟨⟨j+1,by omega,by omega,by go_num,HN,_,rfl⟩,by simp [intOf];omega⟩
        · have t1:((D j:Int) != (((ByteArray.mk s.toArray)[j]'hB).toNat:Int))=true:=by rw [bne_iff_ne,hby];omega
          by_cases c:D j < F j
          · have t2:(D j:Int) < (((ByteArray.mk s.toArray)[j]'hB).toNat:Int):=by rw [hby];omega
            clear hby
            as_aux_lemma =>
              go_wp2_with fail
              go_quiet (fail)
              go_wp2_with fail
              go_quiet (fail)
              go_wp2_with fail
              go_ret
              exact LessIs.yes rfl (HL.out j hjn' hlt hI.out c) ⟨_,by rw [World.drewN_drewN,World.drewN_drewN]⟩
          · have t2:¬ (D j:Int) < (((ByteArray.mk s.toArray)[j]'hB).toNat:Int):=by rw [hby];omega
            have T3:Hid (decide (D j < ((ByteArray.mk s.toArray)[j]'hB).toNat)=false):=decide_eq_false (by rw [hby];omega)
            clear hby
            as_aux_lemma =>
              go_wp2_with fail
              go_quiet (fail)
              go_wp2_with fail
              go_quiet (fail)
              go_wp2_with fail
              go_ret
              exact LessIs.no (congrArg (fun b=>Ending.returned (.bool b)) T3.out) (HG.out j hjn' hlt hI.out (by omega)) ⟨_,by rw [World.drewN_drewN,World.drewN_drewN]⟩
      · have hjn2:(n:Int)≤(j:Int):=by omega
        obtain rfl:j=n:=by omega
        as_aux_lemma =>
          go_wp2_with fail
          go_ret
          exact LessIs.yes rfl (HS.out hlt hI.out) ⟨_,rfl⟩
    · obtain rfl:j=s.length:=by omega
      have hlt':¬ (s.length:Int) < (s.length:Int):=by omega
      as_aux_lemma =>
        go_wp2_with fail
        go_ret
        exact LessIs.no rfl (HE.out hjn hI.out) ⟨_,rfl⟩
end Go.Proofs.YtifapjammoahgaaGreatDoor.Rl
/- leftShift. Own work of the verifier. -/
set_option maxRecDepth 100000
set_option maxHeartbeats 4000000
namespace Go.Proofs.YtifapjammoahgaaGreatDoor.Rl
open Go.RowKit
structure Good (D:Nat→Nat) (n:Nat):Prop where
  pos:1≤n
  top:n≤800
  dig:∀ i,i < n→48≤D i∧D i≤57
  fst:49≤D 0
def CheatB (g:Nat) (w:World):Prop:=8 < g∧∃ b o c,b < g∧w.cell? ⟨8,0,none⟩=some (.slice (some ⟨b,o,none⟩) 61 c)∧∀ k,k < 61→w.cell? ⟨b,o+k*2,none⟩=some (.int .i64 (chD k:Int))∧w.cell? ⟨b,o+k*2+1,none⟩=some (.string ⟨(chS k).toArray⟩)
theorem CheatB.below {g:Nat} {w w':World} (h:CheatB g w) (hb:Below g w w'):CheatB g w':=by
  obtain ⟨h0,b,o,c,h1,h2,h3⟩:=h
  have e:∀ x y,x < g→w'.cell? ⟨x,y,none⟩=w.cell? ⟨x,y,none⟩:=fun x y hx=>hb.cell (p:=⟨x,y,none⟩) hx
  exact ⟨h0,b,o,c,h1,by rw [e _ _ h0];exact h2,fun k hk=>⟨by rw [e _ _ h1];exact (h3 k hk).1,by rw [e _ _ h1];exact (h3 k hk).2⟩⟩
structure LI (D E:Nat→Nat) (n e j:Nat):Prop where
  old:∀ i,i < n - j→E i=D i
  new:∀ i,n+e - j≤i→i < n+e→i < 800→48≤E i∧E i≤57
  fst:e=0→j=n→D 0 < E 0
theorem LI.step {D E:Nat→Nat} {n e j m v:Nat} (h:LI D E n e j) (hm:n=m+1+j) (hv:48≤v∧v≤57) (h0:e=0→m=0→D 0 < v):LI D (upd E (m+e) v) n e (j+1):=by
  refine ⟨fun i hi=>?_,fun i h1 h2 h3=>?_,fun he hj=>?_⟩
  · rw [upd_other E _ _ (by omega)];exact h.old i (by omega)
  · by_cases c:i=m+e
    · subst c;rw [upd_same];exact hv
    · rw [upd_other E _ _ c];exact h.new i (by omega) h2 h3
  · obtain rfl:m=0:=by omega
    subst he
    rw [show 0+0=0 from rfl,upd_same];exact h0 rfl rfl
theorem LI.skip {D E:Nat→Nat} {n e j m:Nat} (h:LI D E n e j) (hm:n=m+1+j) (h8:¬ m+e < 800):LI D E n e (j+1) :=
  ⟨fun i hi=>h.old i (by omega),fun i h1 h2 h3=>by omega,fun he hj=>by omega⟩
structure LJ (D E:Nat→Nat) (n e f:Nat):Prop where
  new:∀ i,f≤i→i < n+e→i < 800→48≤E i∧E i≤57
  fst:f=0→49≤E 0∧(e=0→D 0 < E 0)
theorem LJ.step {D E:Nat→Nat} {n e f v:Nat} (h:LJ D E n e (f+1)) (hf:f+1≤e) (hv:48≤v∧v≤57) (h0:f=0→49≤v):LJ D (upd E f v) n e f:=by
  refine ⟨fun i h1 h2 h3=>?_,fun hz=>⟨?_,fun he=>by omega⟩⟩
  · by_cases c:i=f
    · subst c;rw [upd_same];exact hv
    · rw [upd_other E _ _ c];exact h.new i (by omega) h2 h3
  · subst hz;rw [upd_same];exact h0 rfl
def Lefted (g:Nat) (D:Nat→Nat) (dp:Int) (ng:Bool) (w w':World):Prop :=
  ∃ E m dp' tr',DecAt g E m dp' ng tr' w'∧Good E m∧(dp < dp'∨dp=dp'∧D 0 < E 0)∧dp'≤dp+20∧Below g w w'
theorem mul_cast' (a n:Nat):(a:Int)*2 ^ n=((a*2 ^ n:Nat):Int):=by rw [Int.natCast_mul,Int.natCast_pow];rfl
theorem left_any (g:Nat) (D:Nat→Nat) (n k:Nat) (dp:Int) (ng tr:Bool) (hG:Good D n) (k0:1≤k) (k1:k≤60) (d0:-1000000000000≤dp) (d1:dp≤1000000000000) (w:World) (h:DecAt g D n dp ng tr w) (hC:CheatB g w) :
    Calls Tryz.prog 156 #[.pointer (some ⟨g,0,none⟩),.int .u64 (k:Int)] w fun e w'=>e=.returned (.tuple #[])∧Lefted g D dp ng w w':=by
  obtain ⟨hg0,b,o,c,hbg,s0,s1⟩:=hC
  obtain ⟨s2,s3⟩:=s1 k (by omega)
  clear s1
  have hn:=hG.top
  have hn1:=hG.pos
  have hk:=cheats k k0 k1
  have hfew:=hk.few
  have hone:=hk.one
  have HG:Hid _:=hG
  have HB:Hid (∀ less:Bool,less=decide (pv D n*10 ^ (chS k).length < 5 ^ k*10 ^ n)→cr D n k n < 10 ^ (chD k - b2nn less)∧(1≤chD k - b2nn less→10 ^ (chD k - b2nn less - 1)≤cr D n k n)):=fun less hle=>by
    have:=delta_ok D n k less hG.pos (fun i hi=>(hG.dig i hi).2) hG.fst k0 k1 (fun h=>by rw [hle] at h;exact of_decide_eq_true h) (fun h=>by rw [hle] at h;exact Nat.le_of_not_lt (of_decide_eq_false h))
    exact carry_ok D n k _ this.1 this.2
  have HP:Hid (∀ q,Calls Tryz.prog 176 #[.slice (some ⟨g,0,none⟩) n 800,.string ⟨(chS k).toArray⟩] (w.drewN q) fun e w'=>e=.returned (.bool (decide (pv D n*10 ^ (chS k).length < 5 ^ k*10 ^ n)))∧∃ m,w'=(w.drewN q).drewN m):=fun q=>less_any g D n k dp ng tr hG.top hG.dig k0 k1 _ (h.drewN q)
  have c1:=h.nd
  have hAL:Tryz.prog.arrayLen 175=800:=by kernel_rfl
  have hn8:(n:Int)≤800:=by omega
  clear hG hk
  have hk61:(k:Int) < 61:=by omega
  generalize chD k=d at *
  generalize chS k=s at *
  generalize hless:decide (pv D n*10 ^ s.length < 5 ^ k*10 ^ n)=less at *
  go_enter Tryz.func156,Tryz.ntmps156
  go_wp2_with fail
  go_quiet (first
    | (go_at_call 176;exact Calls.quiet_of (HP.out _))
    | fail)
  go_upto_if 30 with fail
  go_cut [4] from 12 (fun v W=>∃ e:Nat,v=.int .i64 (e:Int)∧e≤19∧Hid (cr D n k n < 10 ^ e∧(1≤e→10 ^ (e - 1)≤cr D n k n))∧Below w.heap.size w W)
  case first =>
    as_aux_lemma =>
      cases less
      · go_wp2_with fail
        go_meet
        exact ⟨d,rfl,hfew,HB.out false rfl,Below.drewN' (Below.refl _ _) _⟩
      · go_wp2_with fail
        go_meet
        exact ⟨d - 1,by go_num,by omega,HB.out true rfl,Below.drewN' (Below.refl _ _) _⟩
  case rest =>
  obtain ⟨e,rfl,he,hcr,hbW⟩:=hcut
  have H:Hid _:=h.below hbW
  have hgl:=h.lt
  clear HB HP c1 h hless hAL s0 s2 s3 hbg hg0 hfew hone hk61
  have c1:=H.out.nd
  have f1:=H.out.fr
  go_wp2_with fail
  go_loopw [5,6,7,8,9] (fun r wv nn _ _ wr=>∃ (j:Nat) (E:Nat→Nat) (t:Bool),j≤n∧r=.int .i64 ((n:Int) - 1 - (j:Int))∧wv=.int .i64 (((n+e - j:Nat)):Int)∧nn=.int .u64 (cr D n k j:Int)∧Hid (DecAt g E n dp ng t wr)∧Hid (LI D E n e j)∧Below g w wr) (fun r _ _ _ _ _=>(intOf r+1).toNat)
  case atStart=>
    refine ⟨0,D,tr,by omega,by simp,by simp,rfl,H,⟨fun _ _=>rfl,fun i h1 h2=>by omega,fun _ h=>by omega⟩,hbW.mono (by omega)⟩
  case round =>
    obtain ⟨j,E,t,hj,rfl,rfl,rfl,hI,hL,hb⟩:=hrel
    by_cases hlt:j < n
    · obtain ⟨m,hm⟩:∃ m,n=m+1+j:=⟨n - 1 - j,by omega⟩
      have hr:(n:Int) - 1 - (j:Int)=(m:Int):=by omega
      have hw:(((n+e - j:Nat)):Int)=(m:Int)+(e:Int)+1:=by omega
      have hEm:E m=D m:=hL.out.old m (by omega)
      have hdm:=HG.out.dig m (by omega)
      have hc:=cr_lt D n k (fun i hi=>(HG.out.dig i hi).2) j (by omega)
      have h60:2 ^ k≤2 ^ 60:=Nat.pow_le_pow_right (by decide) k1
      have hX9:(D m - 48)*2 ^ k≤9*2 ^ k:=Nat.mul_le_mul_right _ (by omega)
      have hX:((D m:Int) - 48)*2 ^ k=(((D m - 48)*2 ^ k:Nat):Int):=by rw [← mul_cast'];congr 1;omega
      have hS:cr D n k (j+1)=((D m - 48)*2 ^ k+cr D n k j) / 10:=by show ((D (n - 1 - j) - 48)*2 ^ k+cr D n k j) / 10=_;rw [show n - 1 - j=m from by omega]
      have hD0:m=0→D 0 - 48 < (D m - 48)*2 ^ k:=fun h=>by
        subst h
        have:2 ^ 1≤2 ^ k:=Nat.pow_le_pow_right (by decide) k0
        have h1:=HG.out.fst
        have:=Nat.mul_le_mul_left (D 0 - 48) this
        omega
      rw [hr,hw]
      have c2:=hI.out.dig m (by omega)
      rw [hEm] at c2
      have HS:Hid _:=hS
      have HD0:Hid _:=hD0
      generalize (D m - 48)*2 ^ k=X at *
      generalize cr D n k j=c0 at *
      generalize 2 ^ k=K2 at *
      clear hr hw hEm hS hD0
      by_cases hwl:m+e < 800
      · have hwl':(m:Int)+(e:Int) < 800:=by omega
        have c3:=hI.out.dig (m+e) hwl
        have f3:=hI.out.fr (m+e)
        as_aux_lemma =>
          go_wp2_with fail
          have hv:((c0:Int)+(X:Int) - 10*(((c0:Int)+(X:Int)) / 10)+48)=((48+(c0+X) % 10:Nat):Int):=by omega
          rw [hv]
          refine ⟨⟨j+1,upd E (m+e) (48+(c0+X) % 10),t,by omega,?_,?_,?_,hI.out.setDig _ _ hwl,hL.out.step hm (by omega) (fun h1 h2=>?_),hb.setCell (Nat.le_refl _) _⟩,by simp [intOf]⟩
          · congr 1;omega
          · congr 1;omega
          · rw [HS.out];congr 1;omega
          · have:=HD0.out h2
            have h3:=hcr.out.1
            subst h1
            rw [show n=j+1 from by omega] at h3
            rw [show n=j+1 from by omega] at HS
            rw [HS.out] at h3
            omega
      · have hwl':¬ (m:Int)+(e:Int) < 800:=by omega
        have c3:=hI.out.tr
        have f3:=hI.out.fr 803
        as_aux_lemma =>
          go_wp2_with fail
          · refine ⟨⟨j+1,E,true,by omega,?_,?_,?_,hI.out.setTr true,hL.out.skip hm hwl,hb.setCell (Nat.le_refl _) _⟩,by simp [intOf]⟩
            · congr 1;omega
            · congr 1;omega
            · rw [HS.out];congr 1;omega
          · refine ⟨⟨j+1,E,t,by omega,?_,?_,?_,hI,hL.out.skip hm hwl,hb⟩,by simp [intOf]⟩
            · congr 1;omega
            · congr 1;omega
            · rw [HS.out];congr 1;omega
    · obtain rfl:j=n:=by omega
      have hr:(j:Int) - 1 - (j:Int)=-1:=by omega
      have hw:(((j+e - j:Nat)):Int)=(e:Int):=by omega
      rw [hr,hw]
      have hc60:=cr_lt D j k (fun i hi=>(HG.out.dig i hi).2) j (by omega)
      have h60:2 ^ k≤2 ^ 60:=Nat.pow_le_pow_right (by decide) k1
      have hJ:LJ D E j e e:=⟨fun i h1 h2 h3=>hL.out.new i (by omega) h2 h3,fun h=>⟨by have:=hL.out.fst h rfl;have:=HG.out.fst;omega,fun h'=>hL.out.fst h' rfl⟩⟩
      have HJ:Hid _:=hJ
      obtain ⟨q1,q2⟩:=hcr.out
      have Q1:Hid _:=q1
      have Q2:Hid _:=q2
      generalize cr D j k j=C at *
      generalize 2 ^ k=K2 at *
      have hC64:C < 18446744073709551616:=by omega
      clear hr hw hJ hL H hcr q1 q2 c1 f1 h60 hc60
      as_aux_lemma =>
        go_wp2_with fail
        go_loopw [6,7,10,11] (fun wv nn _ _ wr'=>∃ (f c:Nat) (E:Nat→Nat) (t:Bool),f≤e∧wv=.int .i64 (f:Int)∧nn=.int .u64 (c:Int)∧c < 18446744073709551616∧Hid (c < 10 ^ f)∧Hid (1≤f→10 ^ (f - 1)≤c)∧Hid (DecAt g E j dp ng t wr')∧Hid (LJ D E j e f)∧Below g w wr') (fun wv _ _ _ _=>(intOf wv).toNat)
        case atStart=>exact ⟨e,C,E,t,by omega,rfl,rfl,hC64,Q1,Q2,hI,HJ,hb⟩
        case round =>
          clear Q1 Q2 hI HJ hb hC64
          obtain ⟨f,c,E,t,hf,rfl,rfl,hc64,Q1,Q2,hI,hJ,hb⟩:=hrel
          rcases Nat.eq_zero_or_pos c with rfl | hcp
          · have hf0:f=0:=by
              rcases Nat.eq_zero_or_pos f with h | h
              · exact h
              · have:=Q2.out h
                have:0 < 10 ^ (f - 1):=Nat.pow_pos (by decide)
                omega
            subst hf0
            have c1:=hI.out.nd
            have c2:=hI.out.dp
            have f1:=hI.out.fr 800
            have f2:=hI.out.fr 801
            obtain ⟨z1,z2⟩:=hJ.out.fst rfl
            have Z2:Hid _:=z2
            clear z2 Q1 Q2 hc64
            by_cases h8:j+e < 800
            · have h8':¬ (800:Int)≤(j:Int)+(e:Int):=by omega
              have HD:Hid (DecAt g E (j+e) (dp+(e:Int)) ng t ((wr.setCell ⟨g,800,none⟩ (.int .i64 ((j:Int)+(e:Int)))).setCell ⟨g,801,none⟩ (.int .i64 (dp+(e:Int))))):=by
                have:=(hI.out.setNd (j+e)).setDp (dp+(e:Int))
                rw [show (((j+e:Nat)):Int)=(j:Int)+(e:Int) from by omega] at this
                exact this
              have HB':Hid (Below g w ((wr.setCell ⟨g,800,none⟩ (.int .i64 ((j:Int)+(e:Int)))).setCell ⟨g,801,none⟩ (.int .i64 (dp+(e:Int))))):=(hb.setCell (Nat.le_refl _) _).setCell (Nat.le_refl _) _
              as_aux_lemma =>
                go_wp2_with (first
                  | (go_at_call 155;with_reducible refine (trim_any g E (j+e) (dp+(e:Int)) ng t (by omega) _ HD.out).mono ?_;rintro e' w' ⟨rfl,ht⟩)
                  | fail)
                refine bodyPost_end (results_none rfl _ _ _) rfl ?_
                obtain ⟨m,dp',hd,hm,hp,hbt⟩:=ht
                obtain ⟨hm1,rfl⟩:=hp (by omega) (by omega)
                refine ⟨rfl,E,m,_,t,hd,⟨hm1,by omega,fun i hi=>hJ.out.new i (by omega) (by omega) (by omega),z1⟩,?_,by omega,HB'.out.trans hbt⟩
                rcases Nat.eq_zero_or_pos e with h0 | h0
                · exact Or.inr ⟨by omega,Z2.out h0⟩
                · exact Or.inl (by omega)
            · have h8':(800:Int)≤(j:Int)+(e:Int):=by omega
              have HD:Hid (DecAt g E 800 (dp+(e:Int)) ng t (((wr.setCell ⟨g,800,none⟩ (.int .i64 ((j:Int)+(e:Int)))).setCell ⟨g,800,none⟩ (.int .i64 800)).setCell ⟨g,801,none⟩ (.int .i64 (dp+(e:Int))))):=by
                have:=((hI.out.setNd (j+e)).setNd 800).setDp (dp+(e:Int))
                rw [show (((j+e:Nat)):Int)=(j:Int)+(e:Int) from by omega] at this
                exact this
              have HB':Hid (Below g w (((wr.setCell ⟨g,800,none⟩ (.int .i64 ((j:Int)+(e:Int)))).setCell ⟨g,800,none⟩ (.int .i64 800)).setCell ⟨g,801,none⟩ (.int .i64 (dp+(e:Int))))):=((hb.setCell (Nat.le_refl _) _).setCell (Nat.le_refl _) _).setCell (Nat.le_refl _) _
              as_aux_lemma =>
                go_wp2_with (first
                  | (go_at_call 155;with_reducible refine (trim_any g E 800 (dp+(e:Int)) ng t (by omega) _ HD.out).mono ?_;rintro e' w' ⟨rfl,ht⟩)
                  | fail)
                refine bodyPost_end (results_none rfl _ _ _) rfl ?_
                obtain ⟨m,dp',hd,hm,hp,hbt⟩:=ht
                obtain ⟨hm1,rfl⟩:=hp (by omega) (by omega)
                refine ⟨rfl,E,m,_,t,hd,⟨hm1,by omega,fun i hi=>hJ.out.new i (by omega) (by omega) (by omega),z1⟩,?_,by omega,HB'.out.trans hbt⟩
                rcases Nat.eq_zero_or_pos e with h0 | h0
                · exact Or.inr ⟨by omega,Z2.out h0⟩
                · exact Or.inl (by omega)
          · have hcp':(0:Int) < (c:Int):=by omega
            obtain ⟨f',rfl⟩:∃ f',f=f'+1:=by
              rcases Nat.eq_zero_or_pos f with h | h
              · subst h;have:=Q1.out;omega
              · exact ⟨f - 1,by omega⟩
            have c3:=hI.out.dig f' (by omega)
            have f3:=hI.out.fr f'
            as_aux_lemma =>
              go_wp2_with fail
              have hv:((c:Int) - 10*((c:Int) / 10)+48)=((48+c % 10:Nat):Int):=by omega
              rw [hv]
              have q1:c < 10 ^ f'*10:=Q1.out
              have q2:10 ^ f'≤c:=Q2.out (by omega)
              refine ⟨⟨f',c / 10,upd E f' (48+c % 10),t,by omega,rfl,by congr 1,by omega,?_,fun h1=>?_,hI.out.setDig _ _ (by omega),hJ.out.step (by omega) (by omega) (fun h0=>?_),hb.setCell (Nat.le_refl _) _⟩,by simp [intOf]⟩
              · show c / 10 < 10 ^ f'
                omega
              · rw [show f'=f' - 1+1 from by omega,Nat.pow_succ] at q2
                omega
              · subst h0
                rw [Nat.pow_zero] at q1 q2
                omega
end Go.Proofs.YtifapjammoahgaaGreatDoor.Rl
