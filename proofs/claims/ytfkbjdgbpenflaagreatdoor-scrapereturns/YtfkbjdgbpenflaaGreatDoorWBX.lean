/- HOW MANY LINES A TEXT HAS. Own work of the verifier. -/
import Derived.Test.YtfkbjdgbpenflaaGreatDoorWBW
namespace Go.Proofs.YtfkbjdgbpenflaaGreatDoor
open Go.RowKit Me
def Lno (l:List UInt8):Prop:=∃ t,l=t++[10]∧t≠[]∧∀ b ∈ t,b≠10
def Nf (l:List UInt8):Prop:=∀ b ∈ l,b≠10
theorem Nf.app {a b:List UInt8} (h:Nf a) (k:Nf b):Nf (a++b):=fun c hc=>(List.mem_append.1 hc).elim (h c) (k c)
theorem Nf.cons {a:UInt8} {b:List UInt8} (h:a≠10) (k:Nf b):Nf (a::b):=fun c hc=>(List.mem_cons.1 hc).elim (fun e=>by rw [e];exact h) (k c)
theorem Nf.nil:Nf []:=fun _ h=>by cases h
theorem Hi.nf {l:List UInt8} (h:Hi l):Nf l:=fun b hb e=>by
 have:=h b hb
 rw [e] at this
 exact absurd this (by decide)
theorem nf_lit (l:List UInt8) (h:l.all (fun b=>b != 10)=true):Nf l:=fun b hb=>by
 have:=List.all_eq_true.1 h b hb
 simpa using this
theorem gd_ne {c:Bool} {n:Nat} (h:La.gd c n=true):n≠10:=by
 intro e
 rw [e] at h
 cases c <;> exact absurd h (by decide)
theorem nf_plain {c:Bool} {l:List UInt8} (h:La.plainB c l=true):Nf l:=fun b hb e=>gd_ne (row_gd c l (plain_z h).2.2 b hb) (by rw [e];rfl)
theorem nf_esc (q:Bool):∀ l:List UInt8,Nf (La.escL q l)
 | []=>Nf.nil
 | b::r=>by
  rw [La.escL]
  refine Nf.app ?_ (nf_esc q r)
  unfold La.esc1
  split
  ·rename_i h
   refine Nf.cons (by decide) (Nf.cons (fun e=>?_) Nf.nil)
   subst e
   rcases h with h | ⟨_,h⟩ <;> exact absurd h (by decide)
  ·split
   ·exact nf_lit _ (by decide)
   ·rename_i h
    exact Nf.cons (fun e=>h (by rw [e];rfl)) Nf.nil
theorem nf_lb {a:La.Lb} (h:Nf a.1):Nf (La.lbT a):=by
 unfold La.lbT
 exact ((h.app (nf_lit _ (by decide))).app (nf_esc _ _)).app (nf_lit _ (by decide))
theorem nf_pr:∀ (L:List La.Lb) (f:Bool),(∀ a ∈ L,Nf a.1)→Nf (La.prB f L)
 | [],_,_=>by rw [La.prB];exact Nf.nil
 | a::r,f,h=>by
  rw [La.prB]
  refine Nf.cons (by cases f <;> decide) ((nf_lb (h a List.mem_cons_self)).app (nf_pr r false (fun x hx=>h x (List.mem_cons_of_mem _ hx))))
theorem nf_print {n:List UInt8} {L:List La.Lb} (h:Nf n) (k:∀ a ∈ L,Nf a.1):Nf (La.printT n L):=by
 unfold La.printT
 refine (h.app (nf_pr L true k)).app ?_
 split
 ·exact Nf.nil
 ·exact nf_lit _ (by decide)
theorem lno_ln {S:List (List UInt8)} (h:Nf S.flatten) (k:S.flatten≠[]):Lno (lnT S):=⟨S.flatten,rfl,k,h⟩
theorem lno_se {d:La.Ds} (hd:DOk d) (en:List UInt8) (M:List La.Lb) (nu:List UInt8) (he:Nf en) (hM:∀ a ∈ M,Nf a.1) (hn:Nf nu):Lno (seT d en M nu):=by
 refine lno_ln ?_ ?_
 ·simp only [List.flatten_cons,List.flatten_nil,List.append_nil]
  refine (nf_print ((nf_plain hd.n).app he) (fun a ha=>?_)).app ((nf_lit _ (by decide)).app hn)
  rcases List.mem_append.1 ha with q | q
  ·exact nf_plain (hd.v a q).1
  ·exact hM a q
 ·simp
theorem nf_one {n v:List UInt8} (h:Nf n):∀ a ∈ ([(n,v)]:List La.Lb),Nf a.1:=fun a ha=>by rw [List.mem_singleton.1 ha];exact h
theorem nf_none:∀ a ∈ ([]:List La.Lb),Nf a.1:=fun a ha=>by cases ha
theorem lno_bk {d:La.Ds} (hd:DOk d) (P:Nat):∀ (C:List Cn) (a:Nat),∀ l ∈ bkL d P a C,Lno l
 | [],_,l,hl=>by cases hl
 | c::r,a,l,hl=>by
  rw [bkL] at hl
  rcases List.mem_cons.1 hl with e | e
  ·rw [e];exact lno_se hd _ _ _ (nf_lit _ (by decide)) (nf_one (nf_lit _ (by decide))) (hi_dec _).nf
  ·exact lno_bk hd P r _ l e
theorem lno_vl {P:Nat} {x:Vl} (hd:DOk x.d):∀ l ∈ vlL P x,Lno l:=by
 intro l hl
 unfold vlL at hl
 split at hl
 ·rw [ctL,List.mem_singleton] at hl
  rw [hl];exact lno_se hd _ _ _ Nf.nil nf_none (hi_itoa _).nf
 ·split at hl
  ·rw [hgL] at hl
   rcases List.mem_append.1 hl with q | q
   ·exact lno_bk hd P _ _ l q
   ·simp only [List.mem_cons,List.mem_nil_iff,or_false] at q
    rcases q with e | e | e
    ·rw [e];exact lno_se hd _ _ _ (nf_lit _ (by decide)) (nf_one (nf_lit _ (by decide))) (hi_dec _).nf
    ·rw [e];exact lno_se hd _ _ _ (nf_lit _ (by decide)) nf_none (hi_itoa _).nf
    ·rw [e];exact lno_se hd _ _ _ (nf_lit _ (by decide)) nf_none (hi_dec _).nf
  ·rw [smL] at hl
   rcases List.mem_append.1 hl with q | q
   ·split at q
    ·simp only [List.mem_cons,List.mem_nil_iff,or_false] at q
     rcases q with e | e
     ·rw [e];exact lno_se hd _ _ _ Nf.nil (nf_one (nf_lit _ (by decide))) (hi_text _).nf
     ·rw [e];exact lno_se hd _ _ _ Nf.nil (nf_one (nf_lit _ (by decide))) (hi_text _).nf
    ·cases q
   ·simp only [List.mem_cons,List.mem_nil_iff,or_false] at q
    rcases q with e | e
    ·rw [e];exact lno_se hd _ _ _ (nf_lit _ (by decide)) nf_none (hi_text _).nf
    ·rw [e];exact lno_se hd _ _ _ (nf_lit _ (by decide)) nf_none (hi_dec _).nf
theorem nf_kd (k:Int):Nf (kdT k):=by unfold kdT;split <;> (try split) <;> exact nf_lit _ (by decide)
def cnV (x:Vl):Nat:=if x.d.kind=1 then 1 else if x.d.kind=2 then x.cs.length+3 else if 0 < x.n then 4 else 2
theorem bk_len (d:La.Ds) (P:Nat):∀ (C:List Cn) (a:Nat),(bkL d P a C).length=C.length
 | [],_=>rfl
 | c::r,a=>by rw [bkL,List.length_cons,List.length_cons,bk_len d P r]
theorem vl_len (P:Nat) (x:Vl):(vlL P x).length=cnV x:=by
 unfold vlL cnV
 split
 ·rfl
 ·split
  ·rw [hgL,List.length_append,bk_len];rfl
  ·rw [smL]
   split <;> rfl
theorem cut_at {c:UInt8}:∀ {t t' r r':List UInt8},(∀ b ∈ t,b≠c)→(∀ b ∈ t',b≠c)→t++c::r=t'++c::r'→t=t'∧r=r'
 | [],[],r,r',_,_,h=>⟨rfl,by simpa using h⟩
 | [],b::t',r,r',_,h',h=>by
  simp only [List.nil_append,List.cons_append,List.cons.injEq] at h
  exact absurd h.1.symm (h' b List.mem_cons_self)
 | b::t,[],r,r',h',_,h=>by
  simp only [List.nil_append,List.cons_append,List.cons.injEq] at h
  exact absurd h.1 (h' b List.mem_cons_self)
 | b::t,b'::t',r,r',h,h',e=>by
  simp only [List.cons_append,List.cons.injEq] at e
  obtain ⟨e0,e⟩:=e
  obtain ⟨e1,e2⟩:=cut_at (fun c hc=>h c (List.mem_cons_of_mem _ hc)) (fun c hc=>h' c (List.mem_cons_of_mem _ hc)) e
  exact ⟨by rw [e0,e1],e2⟩
def Fn (x:Nat):Prop:=x < 18446744073709551616∧Re.finF x=true
theorem vl_ext {x y:Vl} (h1:x.d=y.d) (h2:x.t=y.t) (h3:x.cs=y.cs) (h4:x.n=y.n) (h5:x.sum=y.sum) (h6:x.mn=y.mn) (h7:x.mx=y.mx):x=y:=by
 cases x;cases y;simp only at *;subst h1 h2 h3 h4 h5 h6 h7;rfl
theorem fz_z {x:Vl} (h:fz x=true):x.sum=0∧x.mn=0∧x.mx=0:=by
 unfold fz at h
 simp only [Bool.and_eq_true,decide_eq_true_eq] at h
 exact ⟨h.1.1,h.1.2,h.2⟩
theorem len_z {α:Type} {l:List α} (h:l.length=0):l=[]:=List.eq_nil_of_length_eq_zero h
theorem plain_first {c:Bool} {l:List UInt8} (h:La.plainB c l=true):∃ b r,l=b::r∧La.gd c b.toNat=true:=by
 cases l with
 | nil=>exact absurd (plain_z h).1 (by decide)
 | cons b r=>exact ⟨b,r,rfl,row_gd c _ (plain_z h).2.2 b List.mem_cons_self⟩
theorem vl_first {P:Nat} (x:Vl):∃ en M nu r,vlL P x=seT x.d en M nu::r:=by
 unfold vlL
 split
 ·exact ⟨_,_,_,_,rfl⟩
 ·split
  ·unfold hgL
   cases x.cs with
   | nil=>exact ⟨_,_,_,_,rfl⟩
   | cons c r=>exact ⟨_,_,_,_,by rw [bkL];rfl⟩
  ·unfold smL
   split
   ·exact ⟨_,_,_,_,rfl⟩
   ·exact ⟨_,_,_,_,rfl⟩
theorem like_z {p:Int} {y x:Vl} (h:chk1 p (some y) x=0) (hn:y.d.name=x.d.name):y.d.kind=x.d.kind∧y.d.help=x.d.help:=by
 obtain ⟨h1,h2⟩:=chk1_z h
 unfold chk1 at h
 rw [if_neg (by simpa using h1),if_neg (by rw [h2];decide)] at h
 simp only at h
 unfold plV at h
 split at h
 ·exact absurd h (by decide)
 ·split at h
  ·exact absurd h (by decide)
  ·split at h
   ·exact absurd h (by decide)
   ·rename_i k
    unfold unlB at k
    simp only [hn,decide_true,Bool.true_and,Bool.or_eq_true,decide_eq_true_eq,not_or,Decidable.not_not] at k
    exact k
end Go.Proofs.YtfkbjdgbpenflaaGreatDoor
