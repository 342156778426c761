/- WHOLE NUMBERS AS LISTS OF PARTS OF 32 BITS. Own work of the verifier. -/
import Derived.Test.YtibahfopmjiffaaGreatDoorRows
import Derived.Laws.FloatArith
import Derived.Test.YtibahfopmjiffaaGreatDoorSAA
namespace Go.Proofs.YtibahfopmjiffaaGreatDoor.Soft
def bv:List Nat→Nat
  | []=>0
  | x::l=>x+4294967296*bv l
def B32 (L:List Nat):Prop:=∀ x ∈ L,x < 4294967296
def Trm (L:List Nat):Prop:=∀ h:L≠[],L.getLast h≠0
theorem bv_append (L M:List Nat):bv (L++M)=bv L+4294967296 ^ L.length*bv M:=by
  induction L with
  | nil=>simp [bv]
  | cons x l ih =>
    show x+4294967296*bv (l++M)=x+4294967296*bv l+4294967296 ^ (l.length+1)*bv M
    rw [ih,Nat.mul_add,Nat.pow_succ,Nat.mul_comm (4294967296 ^ l.length) 4294967296,Nat.mul_assoc,Nat.add_assoc]
theorem bv_snoc (L:List Nat) (x:Nat):bv (L++[x])=bv L+4294967296 ^ L.length*x:=by
  rw [bv_append];simp [bv]
theorem bv_lt {L:List Nat} (h:B32 L):bv L < 4294967296 ^ L.length:=by
  induction L with
  | nil=>simp [bv]
  | cons x l ih =>
    have h1:=h x (by simp)
    have h2:=ih (fun y hy=>h y (by simp [hy]))
    show x+4294967296*bv l < 4294967296 ^ (l.length+1)
    rw [Nat.pow_succ]
    generalize 4294967296 ^ l.length=P at *
    omega
theorem bv_take_succ (L:List Nat) (k:Nat) (h:k < L.length):bv (L.take (k+1))=bv (L.take k)+4294967296 ^ k*L[k]:=by
  rw [List.take_succ_eq_append_getElem h,bv_snoc,List.length_take,Nat.min_eq_left (by omega)]
theorem bv_take_zero (L:List Nat) (k:Nat) (h:k≤L.length) (hz:∀ j (hj:j < L.length),k≤j→L[j]=0):bv (L.take k)=bv L:=by
  have:∀ n,k+n≤L.length→bv (L.take (k+n))=bv (L.take k):=by
    intro n
    induction n with
    | zero=>intro _;rfl
    | succ n ih =>
      intro hn
      rw [show k+(n+1)=k+n+1 from by omega,bv_take_succ L (k+n) (by omega),hz (k+n) (by omega) (by omega),Nat.mul_zero,Nat.add_zero,ih (by omega)]
  have h2:=this (L.length - k) (by omega)
  rw [show k+(L.length - k)=L.length from by omega,List.take_length] at h2
  exact h2.symm
def pt (L:List Nat) (i:Nat):Nat:=L.getD i 0
theorem pt_lt {L:List Nat} (h:B32 L) (i:Nat):pt L i < 4294967296:=by
  unfold pt
  rw [List.getD_eq_getElem?_getD]
  cases hx:L[i]? with
  | none=>simp
  | some x=>simpa using h x (List.mem_of_getElem? hx)
def lowP (L:List Nat) (i:Nat):Nat:=bv (L.take i)
theorem lowP_succ (L:List Nat) (i:Nat):lowP L (i+1)=lowP L i+4294967296 ^ i*pt L i:=by
  unfold lowP
  by_cases h:i < L.length
  · rw [bv_take_succ L i h]
    unfold pt;simp [h]
  · rw [List.take_of_length_le (by omega),List.take_of_length_le (by omega)]
    unfold pt
    rw [List.getD_eq_getElem?_getD,List.getElem?_eq_none (by omega)];simp
theorem lowP_all (L:List Nat) (i:Nat) (h:L.length≤i):lowP L i=bv L:=by unfold lowP;rw [List.take_of_length_le h]
theorem b32_snoc {O:List Nat} {x:Nat} (h:B32 O) (hx:x < 4294967296):B32 (O++[x]):=fun y hy=>by
  rcases List.mem_append.1 hy with k | k
  · exact h y k
  · simp at k;omega
theorem pt_in {L:List Nat} {i:Nat} (h:i < L.length):pt L i=L[i]:=by unfold pt;simp [h]
theorem pt_out {L:List Nat} {i:Nat} (h:¬ i < L.length):pt L i=0:=by
  unfold pt;rw [List.getD_eq_getElem?_getD,List.getElem?_eq_none (by omega)];rfl
theorem times_step {A O:List Nat} {i c n:Nat} (hO:O.length=i) (h:bv O+4294967296 ^ i*c=lowP A i*n) :
    bv (O++[(c+pt A i*n) % 4294967296])+4294967296 ^ (i+1)*((c+pt A i*n) / 4294967296)=lowP A (i+1)*n:=by
  rw [bv_snoc,hO,lowP_succ,Nat.pow_succ,Nat.add_mul,← h]
  have e:4294967296 ^ i*((c+pt A i*n) % 4294967296)+4294967296 ^ i*4294967296*((c+pt A i*n) / 4294967296)=4294967296 ^ i*c+4294967296 ^ i*pt A i*n:=by
    rw [Nat.mul_assoc,← Nat.mul_add,Nat.mod_add_div,Nat.mul_add,Nat.mul_assoc]
  omega
theorem times_lt {c x n:Nat} (hc:c < 4294967296) (hx:x < 4294967296) (hn:n < 4294967296):c+x*n < 18446744073709551616∧x*n < 18446744073709551616∧(c+x*n) / 4294967296 < 4294967296:=by
  have h:x*n≤4294967295*4294967295:=Nat.mul_le_mul (by omega) (by omega)
  generalize x*n=p at *
  omega
theorem bv_split (L:List Nat) (i:Nat) (h:i≤L.length):bv L=lowP L i+4294967296 ^ i*bv (L.drop i):=by
  have:=bv_append (L.take i) (L.drop i)
  rw [List.take_append_drop,List.length_take,Nat.min_eq_left h] at this
  exact this
theorem low_lt {L:List Nat} (h:B32 L) (i:Nat):lowP L i < 4294967296 ^ i:=by
  unfold lowP
  have h1:=bv_lt (L:=L.take i) (fun x hx=>h x (List.mem_of_mem_take hx))
  refine Nat.lt_of_lt_of_le h1 (Nat.pow_le_pow_right (by decide) ?_)
  rw [List.length_take];omega
theorem bv_ge {L:List Nat} (h:Trm L) (hL:L≠[]):4294967296 ^ (L.length - 1)≤bv L:=by
  have hl:0 < L.length:=List.length_pos_iff.2 hL
  have h1:=h hL
  rw [List.getLast_eq_getElem] at h1
  have h2:=bv_take_succ L (L.length - 1) (by omega)
  rw [show L.length - 1+1=L.length from by omega,List.take_length] at h2
  have h3:4294967296 ^ (L.length - 1)*1≤4294967296 ^ (L.length - 1)*L[L.length - 1]:=Nat.mul_le_mul_left _ (by omega)
  omega
theorem bv_longer {A C:List Nat} (hA:Trm A) (hC:B32 C) (h:C.length < A.length):bv C < bv A:=by
  have h1:=bv_lt hC
  have h2:=bv_ge hA (fun e=>by rw [e] at h;simp at h)
  have h3:4294967296 ^ C.length≤4294967296 ^ (A.length - 1):=Nat.pow_le_pow_right (by decide) (by omega)
  omega
theorem bv_top {A C:List Nat} {i:Nat} (hC:B32 C) (hi:i < A.length) (hi2:i < C.length) (hd:A.drop (i+1)=C.drop (i+1)) (h:C[i] < A[i]):bv C < bv A:=by
  rw [bv_split A (i+1) (by omega),bv_split C (i+1) (by omega),hd,lowP_succ,lowP_succ,pt_in hi,pt_in hi2]
  have h1:=low_lt hC i
  have h2:4294967296 ^ i*(C[i]+1)≤4294967296 ^ i*A[i]:=Nat.mul_le_mul_left _ h
  rw [Nat.mul_add,Nat.mul_one] at h2
  omega
theorem drop_eq {A C:List Nat} {i:Nat} (hi:i < A.length) (hi2:i < C.length) (hd:A.drop (i+1)=C.drop (i+1)) (h:A[i]=C[i]):A.drop i=C.drop i:=by
  rw [List.drop_eq_getElem_cons hi,List.drop_eq_getElem_cons hi2,hd,h]
theorem apart_step {A C O:List Nat} {i ow part ow':Nat} (hO:O.length=i) (h:bv O+lowP C i=lowP A i+4294967296 ^ i*ow) (hp:part+pt C i+4294967296*0=pt A i+4294967296*ow' - ow) (hle:ow≤pt A i+4294967296*ow') :
    bv (O++[part])+lowP C (i+1)=lowP A (i+1)+4294967296 ^ (i+1)*ow':=by
  rw [bv_snoc,hO,lowP_succ,lowP_succ,Nat.pow_succ]
  have e1:part+pt C i+ow=pt A i+4294967296*ow':=by omega
  have e2:4294967296 ^ i*part+4294967296 ^ i*pt C i+4294967296 ^ i*ow=4294967296 ^ i*pt A i+4294967296 ^ i*4294967296*ow':=by
    rw [Nat.mul_assoc,← Nat.mul_add,← Nat.mul_add,← Nat.mul_add,e1]
  omega
theorem apart_end {A C O:List Nat} {ow:Nat} (hO:O.length=A.length) (hB:B32 O) (_hA:B32 A) (hle:bv C≤bv A) (hl:C.length≤A.length) (ho:ow≤1) (h:bv O+lowP C A.length=lowP A A.length+4294967296 ^ A.length*ow):bv O=bv A - bv C:=by
  rw [lowP_all A _ (by omega),lowP_all C _ hl] at h
  have h1:=bv_lt hB
  rw [hO] at h1
  have:ow=0:=by
    rcases Nat.eq_zero_or_pos ow with c | c
    · exact c
    · exfalso
      have:ow=1:=by omega
      rw [this,Nat.mul_one] at h
      omega
  rw [this,Nat.mul_zero,Nat.add_zero] at h
  omega
theorem len_le {A C:List Nat} (hC:Trm C) (hA:B32 A) (h:bv C≤bv A):C.length≤A.length:=by
  rcases Nat.lt_or_ge A.length C.length with c | c
  · have:=bv_longer hC hA c;omega
  · exact c
end Go.Proofs.YtibahfopmjiffaaGreatDoor.Soft
/- SUMS of floats by their words, NaNs as one. Own work of the verifier. -/
namespace Go.Proofs.YtibahfopmjiffaaGreatDoor.Soft
def aNaN:Nat:=9221120237041090560
def isn (x:Nat):Bool:=decide (9218868437227405312 < x % 9223372036854775808)
def one (x:Nat):Nat:=if isn x then aNaN else x
end Go.Proofs.YtibahfopmjiffaaGreatDoor.Soft
