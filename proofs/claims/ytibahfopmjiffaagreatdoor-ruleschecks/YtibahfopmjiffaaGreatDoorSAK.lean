/- WHOLE NUMBERS OF ANY LENGTH, the document's of layer 2: rows, trim. Own work of the verifier. -/
import Derived.Test.YtibahfopmjiffaaGreatDoorSAH
import Derived.Test.YtibahfopmjiffaaGreatDoorSAF
import Derived.Maps.AppendAt
import Derived.Deep.AppendLies
import Derived.WalkMore
import Derived.IntWalk
import Derived.Deep.DeepCutAuto
import Derived.Deep.CutBlock
import Derived.Laws.ShiftsVarLaws
import Derived.Laws.OwnMore
set_option maxHeartbeats 1000000
namespace Go.Proofs.YtibahfopmjiffaaGreatDoor.Rl
open Go.RowKit Soft
structure GB (B:Nat) (e:TypeId) (f:Nat→Value) (W0:World) (v:Value) (xs:List Nat) (w:World):Prop where
  own:w.ownsRow B e 1 v xs.length (xs.map f)
  nz:v≠.slice none 0 0
  below:Below B W0 w
  size:B≤w.heap.size
theorem own_ofG {w:World} {B:Nat} {e:TypeId} {v:Value} {n:Nat} {xs:List Value} (h:w.ownsRow B e 1 v n xs) (hn:v≠.slice none 0 0):∃ g cap cur,v=.slice (some ⟨g,0,none⟩) n cap∧B≤g∧w.heap[g]? =some (.cells cur e)∧n≤cap∧cap≤maxLen∧cur.size=cap∧cur.toList.take n=xs:=by
  rcases h.2 with h2 | ⟨g,cap,cur,hv,hg,hh,h3,h4,h5,h6⟩
  · exact absurd h2.1 hn
  · exact ⟨g,cap,cur,hv,hg,hh,h3,h4,by simpa using h5,by simpa using h6⟩
theorem GB.push {B:Nat} {e:TypeId} {f:Nat→Value} {W0 w w':World} {v v':Value} {xs:List Nat} {x:Nat} {y:Value} (h:GB B e f W0 v xs w) (ob:Obj) (hy:y=f x)
    (hown:w'.ownsRow B e 1 v' (xs.length+1) (xs.map f++[y])) (hg:(w.alloc ob).grownBy w' v.ownBlock) (hnil:v'=.slice none 0 0 ↔ v=.slice none 0 0∧1=0):GB B e f W0 v' (xs++[x]) w':=by
  obtain ⟨gv,cap,cur,rfl,hB,hcur,_⟩:=own_ofG h.own h.nz
  have hw:=World.grownBy_alloc w ob none
  have hg':(w.alloc ob).grownBy w' (some gv):=hg
  have s1:=hw.size
  have s2:=hg'.size
  refine ⟨?_,fun e=>h.nz (hnil.1 e).1,?_,by have:=h.size;omega⟩
  · rw [List.length_append,List.map_append];subst hy;exact hown
  · exact (h.below.grown hw h.size (fun k e=>by cases e)).grown hg' (by have:=h.size;omega) (fun k e=>by cases e;exact hB)
theorem GB.new {e:TypeId} {f:Nat→Value} (w:World):GB w.heap.size e f w (.slice (some ⟨w.heap.size,0,none⟩) 0 0) [] (w.alloc (.cells #[] e)):=by
  refine ⟨⟨rfl,.inr ⟨w.heap.size,0,#[],rfl,Nat.le_refl _,?_,Nat.le_refl _,by unfold maxLen;omega,rfl,rfl⟩⟩,(fun h=>by cases h),bel1 w _,by simp⟩
  show (w.heap.push _)[w.heap.size]? =_
  simp
def pV (n:Nat):Value:=.int .u32 (n:Int)
def RowP (w:World) (b o:Nat) (L:List Nat):Prop:=∀ i (h:i < L.length),w.cell? ⟨b,o+i,none⟩=some (.int .u32 ((L[i]:Nat):Int))
theorem RowP.below {w w1:World} {b o:Nat} {L:List Nat} {B:Nat} (h:RowP w b o L) (hb:Below B w w1) (hB:L≠[]→b < B):RowP w1 b o L:=fun i hi=>by
  rw [hb.cell (p:=⟨b,o+i,none⟩) (hB (by intro k;rw [k] at hi;simp at hi))];exact h i hi
theorem RowP.lt {w:World} {b o:Nat} {L:List Nat} (h:RowP w b o L) (hL:L≠[]):b < w.heap.size:=by
  cases L with
  | nil=>exact absurd rfl hL
  | cons x l=>exact lt_of_cell (h 0 (by simp))
structure RB (W:World) (ao:Option Addr) (b o cap:Nat) (L:List Nat):Prop where
  addr:L≠[]→ao=some ⟨b,o,none⟩
  lc:L.length≤cap
  mx:cap≤9223372036854775807
  small:B32 L
  row:RowP W b o L
theorem RB.below {W W1:World} {ao:Option Addr} {b o cap:Nat} {L:List Nat} (h:RB W ao b o cap L) (hb:Below W.heap.size W W1):RB W1 ao b o cap L :=
  ⟨h.addr,h.lc,h.mx,h.small,h.row.below hb (fun k=>h.row.lt k)⟩
theorem sizeP (W:World):(sizeOf 183).run Tryz.prog W=.ok 1 W:=by simp [sizeOf];rfl
theorem slice_to (t e:TypeId) (a:Option Addr) (len cap n:Nat) (ht:Tryz.prog.underlying t=some (.slice e)) (hn:n≤cap) (hs:∀ W,(sizeOf e).run Tryz.prog W=.ok 1 W) (W:World) :
    (Instr.slice t (.slice a len cap) none (some (.int .i64 (n:Int))) none).run Tryz.prog W=.ok (.slice a n cap) W:=by
  have he:Tryz.prog.elem t=e:=by simp [Program.elem,ht]
  rw [run_slice_h W t a len cap (by rw [he];exact ht) .i64 (n:Int) (by omega) (by omega),he,hs]
  simp [sliced]
  intro _
  cases a <;> simp [Addr.add]
def lenOf:Value→Nat
  | .slice _ n _=>n
  | _=>0
theorem ntrim_any (ao:Option Addr) (b o cap:Nat) (L:List Nat) (w:World) (h:RB w ao b o cap L) :
    Calls Tryz.prog 217 #[.slice ao L.length cap] w fun e w'=>∃ n,e=.returned (.slice ao n cap)∧w'=w∧n≤L.length∧(∀ j (hj:j < L.length),n≤j→L[j]=0)∧(∀ k (hk:k < L.length),n=k+1→L[k]≠0):=by
  have hcp:=h.lc
  have hmx:=h.mx
  go_enter Tryz.func217,Tryz.ntmps217
  go_wp2_with fail
  go_loop [0] (fun a=>∃ n:Nat,n≤L.length∧a=.slice ao n cap∧Hid (∀ j (hj:j < L.length),n≤j→L[j]=0)) (fun a=>lenOf a)
  case atStart=>exact ⟨L.length,by omega,rfl,fun j hj k=>by omega⟩
  case round =>
    obtain ⟨n,hn,rfl,hz⟩:=hrel
    cases n with
    | zero =>
      go_wp2_with fail
      go_ret
      exact ⟨0,rfl,rfl,by omega,hz.out,fun k hk e=>by omega⟩
    | succ k =>
      obtain rfl:=h.addr (by intro e;rw [e] at hn;simp at hn)
      have hsl:=slice_to 203 183 (some ⟨b,o,none⟩) (k+1) cap k Tryz.underlying203 (by omega) sizeP
      have hk:k < L.length:=by omega
      have q1:=h.row k hk
      have hp:(0:Int) < ((k+1:Nat):Int):=by omega
      have hi1:((k+1:Nat):Int) - 1=(k:Int):=by omega
      by_cases hx:L[k]=0
      · rw [hx] at q1
        have hz':Hid (∀ j (hj:j < L.length),k≤j→L[j]=0):=fun j hj hkj=>by
          rcases Nat.eq_or_lt_of_le hkj with e | e
          · subst e;exact hx
          · exact hz.out j hj e
        go_wp2_with (first | simp only [hsl])
        go_round
        case rel=>exact ⟨k,by omega,rfl,hz'⟩
        case measure=>simp [lenOf]
      · have HX:Hid (L[k]≠0):=hx
        have hx2:(((L[k]:Nat):Int) == 0)=false:=by rw [beq_eq_false_iff_ne];omega
        clear hsl
        go_wp2_with fail
        go_ret
        exact ⟨k+1,rfl,rfl,hn,hz.out,fun j hj e=>by
          have ej:k=j:=by omega
          subst ej
          exact HX.out⟩
def BigAt (W:World) (v:Value) (N:Nat):Prop:=∃ ao b o cap L,v=.slice ao L.length cap∧RB W ao b o cap L∧bv L=N∧Trm L
theorem BigAt.below {W W1:World} {v:Value} {N:Nat} (h:BigAt W v N) (hb:Below W.heap.size W W1):BigAt W1 v N:=by
  obtain ⟨ao,b,o,cap,L,h1,h2,h3,h4⟩:=h
  exact ⟨ao,b,o,cap,L,h1,h2.below hb,h3,h4⟩
theorem ntrim_big (ao:Option Addr) (b o cap:Nat) (L:List Nat) (w:World) (h:RB w ao b o cap L) :
    Calls Tryz.prog 217 #[.slice ao L.length cap] w fun e w'=>∃ v,e=.returned v∧w'=w∧BigAt w v (bv L):=by
  refine (ntrim_any ao b o cap L w h).mono ?_
  rintro e w' ⟨n,rfl,rfl,hn,hz,hx⟩
  have hlen:(L.take n).length=n:=by rw [List.length_take];omega
  refine ⟨_,rfl,rfl,ao,b,o,cap,L.take n,by rw [hlen],⟨?_,?_,h.mx,?_,?_⟩,?_,?_⟩
  · intro hne;exact h.addr (fun e=>hne (by rw [e];simp))
  · rw [hlen];have:=h.lc;omega
  · intro x hx;exact h.small x (List.mem_of_mem_take hx)
  · intro i hi
    rw [hlen] at hi
    rw [h.row i (by omega)]
    simp
  · exact bv_take_zero L n hn hz
  · intro hne
    have hn0:n≠0:=fun e=>hne (by rw [e];simp)
    rw [List.getLast_eq_getElem]
    simp only [hlen,List.getElem_take]
    exact hx (n - 1) (by omega) (by omega)
def BigIn (W:World) (v:Value) (N:Nat):Prop:=∃ b o cap L,v=.slice (some ⟨b,o,none⟩) L.length cap∧RB W (some ⟨b,o,none⟩) b o cap L∧bv L=N∧Trm L
theorem BigIn.big {W:World} {v:Value} {N:Nat} (h:BigIn W v N):BigAt W v N:=by
  obtain ⟨b,o,cap,L,h1,h2,h3,h4⟩:=h
  exact ⟨_,b,o,cap,L,h1,h2,h3,h4⟩
theorem ntrim_in (b o cap:Nat) (L:List Nat) (w:World) (h:RB w (some ⟨b,o,none⟩) b o cap L) :
    Calls Tryz.prog 217 #[.slice (some ⟨b,o,none⟩) L.length cap] w fun e w'=>∃ v,e=.returned v∧w'=w∧BigIn w v (bv L):=by
  refine (ntrim_any (some ⟨b,o,none⟩) b o cap L w h).mono ?_
  rintro e w' ⟨n,rfl,rfl,hn,hz,hx⟩
  have hlen:(L.take n).length=n:=by rw [List.length_take];omega
  refine ⟨_,rfl,rfl,b,o,cap,L.take n,by rw [hlen],⟨?_,?_,h.mx,?_,?_⟩,?_,?_⟩
  · intro hne;exact h.addr (fun e=>hne (by rw [e];simp))
  · rw [hlen];have:=h.lc;omega
  · intro x hx;exact h.small x (List.mem_of_mem_take hx)
  · intro i hi
    rw [hlen] at hi
    rw [h.row i (by omega)]
    simp
  · exact bv_take_zero L n hn hz
  · intro hne
    have hn0:n≠0:=fun e=>hne (by rw [e];simp)
    rw [List.getLast_eq_getElem]
    simp only [hlen,List.getElem_take]
    exact hx (n - 1) (by omega) (by omega)
theorem infoP:(Tryz.prog.info? 183).map (fun i=>(i.zero,i.size,i.bytes))=some (some (.int .u32 0),1,4):=by kernel_rfl
theorem GB.rowP {B:Nat} {W0 v:_} {L:List Nat} {w:World} (h:GB B 183 pV W0 v L w) (hs:B32 L):∃ g cap,v=.slice (some ⟨g,0,none⟩) L.length cap∧B≤g∧RB w (some ⟨g,0,none⟩) g 0 cap L:=by
  obtain ⟨g,cap,cur,rfl,hB,hcur,h1,h2,h3,h4⟩:=own_ofG h.own h.nz
  refine ⟨g,cap,rfl,hB,⟨fun _=>rfl,h1,h2,hs,?_⟩⟩
  intro i hi
  have:=h.own.cellAt i (by simpa using hi)
  rw [Nat.zero_add,this]
  simp [hi,pV]
end Go.Proofs.YtibahfopmjiffaaGreatDoor.Rl
/- PRODUCTS of whole numbers of any length, the document's of layer 2. Own work of the verifier. -/
set_option maxHeartbeats 2000000
namespace Go.Proofs.YtibahfopmjiffaaGreatDoor.Rl
open Go.RowKit Soft
theorem ntimes_rows (ao : Option Addr) (b o cap : Nat) (A : List Nat) (n : Nat) (hn : n < 4294967296) (w : World) (h : RB w ao b o cap A) (hl : A.length ≤ 1000000000) :
    Calls Tryz.prog 175 #[.slice ao A.length cap, .int .u32 (n : Int)] w fun e w' => ∃ v, e = .returned v ∧ Below w.heap.size w w' ∧ BigIn w' v (bv A * n) := by
  obtain ⟨i0, hi, hz0, hz1, hz2⟩ := info_parts infoP
  go_enter Tryz.func175, Tryz.ntmps175
  go_wp2_with fail
  go_loopw [5, 6, 7] (fun v cr a wr => ∃ (i c : Nat) (O : List Nat), cr = .int .u64 (c : Int) ∧ a = .int .i64 (i : Int) ∧ c < 4294967296 ∧ i ≤ A.length ∧ GB w.heap.size 183 pV w v O wr ∧ Hid (O.length = i ∧ B32 O ∧ bv O + 4294967296 ^ i * c = lowP A i * n)) (fun _ _ a _ => (A.length - (intOf a).toNat))
  case atStart => exact ⟨0, 0, [], rfl, rfl, by omega, by omega, GB.new w, ⟨rfl, (fun x hx => by cases hx), by simp [bv, lowP]⟩⟩
  case round =>
    obtain ⟨i, c, O, rfl, rfl, hc, hic, hG, hH⟩ := hrel
    have hx := pt_lt h.small i
    have HS : Hid _ := times_step hH.out.1 hH.out.2.2
    have hB := hG.below
    have hol : O.length = i := hH.out.1
    have HO : Hid (B32 O) := hH.out.2.1
    by_cases u1 : i < A.length
    · obtain rfl := h.addr (by intro e; rw [e] at u1; simp at u1)
      have q1 : wr.cell? ⟨b, o + i, none⟩ = some (.int .u32 ((pt A i : Nat) : Int)) := by rw [pt_in u1]; exact (h.row.below hB (fun e => h.row.lt e)) i u1
      have v1 : (i : Int) < (A.length : Int) := by omega
      generalize pt A i = x at *
      obtain ⟨l1, l2, l3⟩ := times_lt hc hx hn
      have s0 : (x : Int) * (n : Int) = ((x * n : Nat) : Int) := by rw [Int.natCast_mul]
      have s1 : (c : Int) + ((x * n : Nat) : Int) = ((c + x * n : Nat) : Int) := by omega
      have s3 : IntKind.u32.wrap ((c + x * n : Nat) : Int) = (((c + x * n) % 4294967296 : Nat) : Int) := by rw [IntKind.wrap_u32']; omega
      have s4 : ((c + x * n : Nat) : Int) / 4294967296 = (((c + x * n) / 4294967296 : Nat) : Int) := by omega
      have HQ : Hid ((c + x * n) % 4294967296 < 4294967296 ∧ (c + x * n) / 4294967296 < 4294967296) := by unfold Hid; omega
      generalize (c + x * n) % 4294967296 = r at *
      generalize (c + x * n) / 4294967296 = q at *
      generalize c + x * n = s at *
      generalize x * n = p at *
      go_wp2_with (first | (at_builtin; refine wpList_append_own _ rfl _ _ 203 rfl w.heap.size 183 i0 (.int .u32 0) 1 4 Tryz.underlying203 hi hz0 hz1 hz2 rfl (by decide) _ _ _ rfl (hG.own.alloc _) ⟨_, 0, none⟩ 1 1 [_] rfl rfl (cell_one_new _ _ _) (by intro u hu; simp at hu; subst hu; rfl) (by unfold maxLen; omega) (by omega) (by have := hG.size; simp; omega) ?_; intro v' w7 hown hgrow hnil; have hG7 := hG.push (x := r) _ rfl hown hgrow hnil; clear hown hgrow hnil))
      exact ⟨⟨i + 1, q, O ++ [r], rfl, by go_num, HQ.out.2, by omega, hG7, ⟨by rw [List.length_append, hol]; rfl, b32_snoc HO.out HQ.out.1, HS.out⟩⟩, by simp [intOf]; omega⟩
    · have v1 : ¬ (i : Int) < (A.length : Int) := by omega
      have s3 : IntKind.u32.wrap (c : Int) = (c : Int) := by rw [IntKind.wrap_u32']; omega
      have HB : Hid (B32 (O ++ [c]) ∧ bv (O ++ [c]) = bv A * n) := by
        refine ⟨b32_snoc HO.out hc, ?_⟩
        have e := hH.out.2.2
        rw [lowP_all A i (by omega)] at e
        rw [bv_snoc, hol]
        exact e
      go_wp2_with (first
        | (at_builtin; refine wpList_append_own _ rfl _ _ 203 rfl w.heap.size 183 i0 (.int .u32 0) 1 4 Tryz.underlying203 hi hz0 hz1 hz2 rfl (by decide) _ _ _ rfl (hG.own.alloc _) ⟨_, 0, none⟩ 1 1 [_] rfl rfl (cell_one_new _ _ _) (by intro u hu; simp at hu; subst hu; rfl) (by unfold maxLen; omega) (by omega) (by have := hG.size; simp; omega) ?_; intro v' w7 hown hgrow hnil; have hG7 := hG.push (x := c) _ rfl hown hgrow hnil; clear hown hgrow hnil)
        | (go_at_call 217
           obtain ⟨g, cap3, rfl, hgB, hRB⟩ := hG7.rowP HB.out.1
           have hT := ntrim_in g 0 cap3 (O ++ [c]) w7 hRB
           with_reducible refine hT.mono ?_
           rintro e w' ⟨v', rfl, rfl, hbig⟩))
      go_ret
      rw [HB.out.2] at hbig
      exact ⟨_, rfl, hG7.below, hbig⟩
theorem len_of {L:List Nat} {K:Nat} (h:Trm L) (hb:bv L < 4294967296 ^ K):L.length≤K:=by
  rcases Nat.lt_or_ge K L.length with c | c
  · have h2:=bv_ge h (fun e=>by rw [e] at c;simp at c)
    have h3:4294967296 ^ K≤4294967296 ^ (L.length - 1):=Nat.pow_le_pow_right (by decide) (by omega)
    exact absurd hb (by omega)
  · exact c
def NSh (N:Nat):Prop:=∃ K,K≤1000000000∧N < 4294967296 ^ K
theorem NSh.le {M N:Nat} (h:NSh N) (hM:M≤N):NSh M:=by
  obtain ⟨K,h1,h2⟩:=h
  exact ⟨K,h1,Nat.lt_of_le_of_lt hM h2⟩
def Sm (N:Nat):Prop:=∃ K,K≤1000∧N < 4294967296 ^ K
theorem Sm.nsh {N:Nat} (h:Sm N):NSh N:=by
  obtain ⟨K,h1,h2⟩:=h
  exact ⟨K,by omega,h2⟩
theorem Sm.le {M N:Nat} (h:Sm N) (hM:M≤N):Sm M:=by
  obtain ⟨K,h1,h2⟩:=h
  exact ⟨K,h1,Nat.lt_of_le_of_lt hM h2⟩
theorem Sm.len {N:Nat} {L:List Nat} (h:Sm N) (hT:Trm L) (hb:bv L=N):L.length≤1000:=by
  obtain ⟨K,h1,h2⟩:=h
  exact Nat.le_trans (len_of hT (by rw [hb];exact h2)) h1
theorem sm_of (c s k:Nat) (hc:c < 18446744073709551616) (hs:s≤1100) (hk:k≤5000):Sm (c*10 ^ s*2 ^ k):=by
  have h1:10 ^ s≤2 ^ (4*s):=by rw [Nat.pow_mul];exact Nat.pow_le_pow_left (by decide) s
  have h2:c*10 ^ s*2 ^ k≤2 ^ 64*2 ^ (4*s)*2 ^ k:=Nat.mul_le_mul_right _ (Nat.mul_le_mul (Nat.le_of_lt hc) h1)
  rw [← Nat.pow_add,← Nat.pow_add] at h2
  obtain ⟨K,hK,hK2⟩:∃ K,64+4*s+k < 32*K∧K≤1000:=⟨(64+4*s+k) / 32+1,by omega,by omega⟩
  have h3:2 ^ (64+4*s+k) < 2 ^ (32*K):=Nat.pow_lt_pow_right (by decide) hK
  rw [Nat.pow_mul 2 32 K] at h3
  exact ⟨K,hK2,Nat.lt_of_le_of_lt h2 h3⟩
theorem ntimes_v {W:World} {v:Value} {N:Nat} (n:Nat) (hn:n < 4294967296) (h:BigAt W v N) (hs:NSh N) :
    Calls Tryz.prog 175 #[v,.int .u32 (n:Int)] W fun e w'=>∃ v,e=.returned v∧Below W.heap.size W w'∧BigIn w' v (N*n):=by
  obtain ⟨ao,b,o,cap,L,rfl,hR,rfl,hT⟩:=h
  obtain ⟨K,k1,k2⟩:=hs
  exact ntimes_rows ao b o cap L n hn W hR (Nat.le_trans (len_of hT k2) k1)
end Go.Proofs.YtibahfopmjiffaaGreatDoor.Rl
/- compare, of: the document's whole numbers of layer 2. Own work of the verifier. -/
set_option maxRecDepth 100000
set_option maxHeartbeats 2000000
namespace Go.Proofs.YtibahfopmjiffaaGreatDoor.Rl
open Go.RowKit Soft
def cmpN (a b:Nat):Int:=if a < b then -1 else if b < a then 1 else 0
theorem cmpN_lt {a b:Nat} (h:a < b):cmpN a b=-1:=if_pos h
theorem cmpN_gt {a b:Nat} (h:b < a):cmpN a b=1:=by unfold cmpN;rw [if_neg (by omega),if_pos h]
theorem cmpN_eq {a b:Nat} (h:a=b):cmpN a b=0:=by unfold cmpN;rw [if_neg (by omega),if_neg (by omega)]
theorem ncompare_rows (ao:Option Addr) (b o cap:Nat) (A:List Nat) (ao2:Option Addr) (b2 o2 cap2:Nat) (C:List Nat) (w:World) (h:RB w ao b o cap A) (k:RB w ao2 b2 o2 cap2 C) (tA:Trm A) (tC:Trm C) (hl:A.length≤1000000000) (_hl2:C.length≤1000000000) :
    Calls Tryz.prog 173 #[.slice ao A.length cap,.slice ao2 C.length cap2] w fun e w'=>e=.returned (.int .i64 (cmpN (bv A) (bv C)))∧∃ m,w'=w.drewN m:=by
  by_cases hne:A.length=C.length
  · have t0:((A.length:Int) != (C.length:Int))=false:=by rw [bne_eq_false_iff_eq];omega
    have HN:Hid _:=hne
    clear hne
    go_enter Tryz.func173,Tryz.ntmps173
    go_wp2_with fail
    go_loopw [5] (fun a wr=>∃ j:Nat,j≤A.length∧a=.int .i64 ((j:Int) - 1)∧Hid (A.drop j=C.drop j)∧∃ q,wr=w.drewN q) (fun a _=>(intOf a+1).toNat)
    case atStart=>exact ⟨A.length,by omega,rfl,by show A.drop _=C.drop _;rw [List.drop_length,HN.out,List.drop_length],0,rfl⟩
    case round =>
      clear t0
      obtain ⟨j,hj,rfl,hd,q,rfl⟩:=hrel
      cases j with
      | zero =>
        have hAC:A=C:=by have:=hd.out;simpa using this
        as_aux_lemma =>
          go_wp2_with fail
          go_ret
          exact ⟨congrArg (fun z=>Ending.returned (.int .i64 z)) (cmpN_eq (by rw [hAC])).symm,_,rfl⟩
      | succ i =>
        have hi1:((i+1:Nat):Int) - 1=(i:Int):=by omega
        have hiA:i < A.length:=by omega
        have hiC:i < C.length:=by have:=HN.out;omega
        obtain rfl:=h.addr (by intro e;rw [e] at hiA;simp at hiA)
        obtain rfl:=k.addr (by intro e;rw [e] at hiC;simp at hiC)
        have q1:=h.row i hiA
        have q2:=k.row i hiC
        have v1:(i:Int) < (A.length:Int):=by omega
        have v2:(i:Int) < (C.length:Int):=by omega
        have HT1:Hid (A[i] < C[i]→bv A < bv C):=fun hc=>bv_top h.small hiC hiA hd.out.symm hc
        have HT2:Hid (C[i] < A[i]→bv C < bv A):=fun hc=>bv_top k.small hiA hiC hd.out hc
        have HT3:Hid (A[i]=C[i]→A.drop i=C.drop i):=fun hc=>drop_eq hiA hiC hd.out hc
        rw [hi1]
        generalize A[i]=x at *
        generalize C[i]=y at *
        rcases Nat.lt_trichotomy x y with c | c | c
        · have t1:(x:Int) < (y:Int):=by omega
          as_aux_lemma =>
            go_wp2_with fail
            go_quiet (fail)
            go_wp2_with fail
            go_ret
            exact ⟨congrArg (fun z=>Ending.returned (.int .i64 z)) (cmpN_lt (HT1.out c)).symm,_,World.drewN_drewN _ _ _⟩
        · have t1:¬ (x:Int) < (y:Int):=by omega
          have t2:¬ (y:Int) < (x:Int):=by omega
          as_aux_lemma =>
            go_wp2_with fail
            go_quiet (fail)
            go_wp2_with fail
            go_quiet (fail)
            go_wp2_with fail
            exact ⟨⟨i,by omega,rfl,HT3.out c,_,rfl⟩,by simp [intOf]⟩
        · have t1:¬ (x:Int) < (y:Int):=by omega
          have t2:(y:Int) < (x:Int):=by omega
          as_aux_lemma =>
            go_wp2_with fail
            go_quiet (fail)
            go_wp2_with fail
            go_quiet (fail)
            go_wp2_with fail
            go_ret
            exact ⟨congrArg (fun z=>Ending.returned (.int .i64 z)) (cmpN_gt (HT2.out c)).symm,_,by rw [World.drewN_drewN,World.drewN_drewN]⟩
  · have t0:((A.length:Int) != (C.length:Int))=true:=by rw [bne_iff_ne];omega
    by_cases c:A.length < C.length
    · have t1:(A.length:Int) < (C.length:Int):=by omega
      have hb:=bv_longer tC h.small c
      go_enter Tryz.func173,Tryz.ntmps173
      go_wp2_with fail
      go_ret
      exact ⟨congrArg (fun z=>Ending.returned (.int .i64 z)) (cmpN_lt hb).symm,0,rfl⟩
    · have t1:¬ (A.length:Int) < (C.length:Int):=by omega
      have hb:=bv_longer tA k.small (by omega)
      go_enter Tryz.func173,Tryz.ntmps173
      go_wp2_with fail
      go_ret
      exact ⟨congrArg (fun z=>Ending.returned (.int .i64 z)) (cmpN_gt hb).symm,0,rfl⟩
end Go.Proofs.YtibahfopmjiffaaGreatDoor.Rl
/- of, tens: the document's whole numbers of layer 2. Own work of the verifier. -/
set_option maxRecDepth 100000
set_option maxHeartbeats 1000000
namespace Go.Proofs.YtibahfopmjiffaaGreatDoor.Rl
open Go.RowKit Soft
theorem two_bv (x:Nat):bv [x % 4294967296,x / 4294967296]=x:=by
  show x % 4294967296+4294967296*(x / 4294967296+4294967296*0)=x
  omega
theorem nof_any (x:Nat) (hx:x < 18446744073709551616) (w:World) :
    Calls Tryz.prog 170 #[.int .u64 (x:Int)] w fun e w'=>∃ v,e=.returned v∧Below w.heap.size w w'∧BigIn w' v x:=by
  have s1:IntKind.u32.wrap (x:Int)=((x % 4294967296:Nat):Int):=by rw [IntKind.wrap_u32'];omega
  have s2:(x:Int) / 4294967296=((x / 4294967296:Nat):Int):=by omega
  have s3:IntKind.u32.wrap ((x / 4294967296:Nat):Int)=((x / 4294967296:Nat):Int):=by rw [IntKind.wrap_u32'];omega
  have HB:Hid (bv [x % 4294967296,x / 4294967296]=x∧x % 4294967296 < 4294967296∧x / 4294967296 < 4294967296):=⟨two_bv x,by omega,by omega⟩
  generalize x % 4294967296=a at *
  generalize x / 4294967296=b at *
  go_enter Tryz.func170,Tryz.ntmps170
  have hR:RB (w.alloc (.cells #[.int .u32 (a:Int),.int .u32 (b:Int)] 183)) (some ⟨w.heap.size,0,none⟩) w.heap.size 0 2 [a,b]:=by
    refine ⟨fun _=>rfl,by simp,by decide,fun y hy=>?_,fun i hi=>?_⟩
    · have:=HB.out.2
      simp at hy
      omega
    · match i,hi with
      | 0,_=>simp [go_sem]
      | 1,_=>simp [go_sem]
  have hT:=ntrim_in w.heap.size 0 2 [a,b] _ hR
  go_wp2_with (first
    | (go_at_call 217;refine hT.mono ?_;rintro e w' ⟨v',rfl,rfl,hbig⟩)
    | fail)
  go_ret
  rw [HB.out.1] at hbig
  exact ⟨_,rfl,bel1 w _,hbig⟩
theorem ntens_any (n:Nat) (v:Value) (N:Nat) (hn:n≤100000) (w:World) (h:BigAt w v N) (hs:NSh (N*10 ^ n)) :
    Calls Tryz.prog 172 #[v,.int .i64 (n:Int)] w fun e w'=>∃ v,e=.returned v∧Below w.heap.size w w'∧BigAt w' v (N*10 ^ n):=by
  go_enter Tryz.func172,Tryz.ntmps172
  go_upto_block 0 with fail
  go_cut [0,1] from 5 (fun a m W=>∃ (M k:Nat),m=.int .i64 (k:Int)∧k < 9∧Hid (M*10 ^ k=N*10 ^ n)∧Hid (BigAt W a M)∧Below w.heap.size w W)
  case first =>
    as_aux_lemma =>
      go_wp2_with fail
      go_loopw [0,1] (fun a m W=>∃ (M k:Nat),m=.int .i64 (k:Int)∧k≤n∧Hid (M*10 ^ k=N*10 ^ n)∧Hid (BigAt W a M)∧Below w.heap.size w W) (fun _ m _=>(intOf m).toNat)
      case atStart=>exact ⟨N,n,rfl,Nat.le_refl _,rfl,h,Below.refl _ _⟩
      case round =>
        obtain ⟨M,k,rfl,hk,hM,hB,hb⟩:=hrel
        by_cases h9:9≤k
        · have h9':(9:Int)≤(k:Int):=by omega
          have HT:Hid (Calls Tryz.prog 175 #[u0,.int .u32 1000000000] wr fun e w'=>∃ v,e=.returned v∧Below wr.heap.size wr w'∧BigIn w' v (M*1000000000)):=ntimes_v 1000000000 (by decide) hB.out (by
            have:=hM.out
            refine hs.le ?_
            rw [← this]
            exact Nat.le_mul_of_pos_right _ (Nat.pow_pos (by decide)))
          have HM2:Hid (M*1000000000*10 ^ (k - 9)=N*10 ^ n):=by
            show M*10 ^ 9*10 ^ (k - 9)=N*10 ^ n
            rw [Nat.mul_assoc,← Nat.pow_add,show 9+(k - 9)=k from by omega]
            exact hM.out
          as_aux_lemma =>
            go_wp2_with fail
            refine Calls.mono HT.out ?_
            rintro e w2 ⟨v2,rfl,hb2,hI2⟩
            have HI:Hid _:=hI2.big
            clear hI2
            go_wp2_with fail
            exact ⟨⟨M*1000000000,k - 9,congrArg (Value.int .i64) (by omega),by omega,HM2,HI,hb.trans (hb2.mono hb.size)⟩,by simp [intOf];omega⟩
        · have h9':¬ (9:Int)≤(k:Int):=by omega
          as_aux_lemma =>
            go_wp2_with fail
            go_meet
            exact ⟨M,k,rfl,by omega,hM,hB,hb⟩
  case rest =>
  clear h
  obtain ⟨M,k,rfl,hk,hM,hB,hb⟩:=hcut
  go_wp2_with fail
  go_loopw [0,1] (fun a m W=>∃ (M k:Nat),m=.int .i64 (k:Int)∧k < 9∧Hid (M*10 ^ k=N*10 ^ n)∧Hid (BigAt W a M)∧Below w.heap.size w W) (fun _ m _=>(intOf m).toNat)
  case atStart=>exact ⟨M,k,rfl,hk,hM,hB,hb⟩
  case round =>
    clear hk hM hB hb
    obtain ⟨M,k,rfl,hk,hM,hB,hb⟩:=hrel
    rcases Nat.eq_zero_or_pos k with hk0 | hk0
    · subst hk0
      have e:M=N*10 ^ n:=by have:=hM.out;rw [Nat.pow_zero,Nat.mul_one] at this;exact this
      as_aux_lemma =>
        go_wp2_with fail
        go_ret
        exact ⟨_,rfl,hb,by rw [← e];exact hB.out⟩
    · have hp:(0:Int) < (k:Int):=by omega
      have HT:Hid (Calls Tryz.prog 175 #[u0,.int .u32 10] wr fun e w'=>∃ v,e=.returned v∧Below wr.heap.size wr w'∧BigIn w' v (M*10)):=ntimes_v 10 (by decide) hB.out (by
        have:=hM.out
        refine hs.le ?_
        rw [← this]
        exact Nat.le_mul_of_pos_right _ (Nat.pow_pos (by decide)))
      have HM2:Hid (M*10*10 ^ (k - 1)=N*10 ^ n):=by
        show M*10 ^ 1*10 ^ (k - 1)=N*10 ^ n
        rw [Nat.mul_assoc,← Nat.pow_add,show 1+(k - 1)=k from by omega]
        exact hM.out
      as_aux_lemma =>
        go_wp2_with fail
        refine Calls.mono HT.out ?_
        rintro e w2 ⟨v2,rfl,hb2,hI2⟩
        have HI:Hid _:=hI2.big
        clear hI2
        go_wp2_with fail
        exact ⟨⟨M*10,k - 1,congrArg (Value.int .i64) (by omega),by omega,HM2,HI,hb.trans (hb2.mono hb.size)⟩,by simp [intOf];omega⟩
end Go.Proofs.YtibahfopmjiffaaGreatDoor.Rl
/- shift: the document's whole numbers of layer 2. Own work of the verifier. -/
set_option maxRecDepth 100000
set_option maxHeartbeats 2000000
namespace Go.Proofs.YtibahfopmjiffaaGreatDoor.Rl
open Go.RowKit Soft
theorem zeros_bv (q:Nat):bv (List.replicate q 0)=0:=by
  induction q with
  | zero=>rfl
  | succ q ih=>rw [List.replicate_succ];show 0+4294967296*bv (List.replicate q 0)=0;rw [ih]
theorem up_bv (q r a:Nat) (T:List Nat) (h:bv T=a*2 ^ r):bv (List.replicate q 0++T)=a*2 ^ (32*q+r):=by
  rw [bv_append,zeros_bv,List.length_replicate,h,Nat.zero_add,Nat.pow_add,Nat.pow_mul,show 2 ^ 32=4294967296 from by decide]
  rw [← Nat.mul_assoc,← Nat.mul_assoc,Nat.mul_comm a]
theorem b32_zeros {q:Nat} {T:List Nat} (h:B32 T):B32 (List.replicate q 0++T):=fun x hx=>by
  rcases List.mem_append.1 hx with k | k
  · rw [(List.mem_replicate.1 k).2];decide
  · exact h x k
theorem GB.pushes {B:Nat} {e:TypeId} {f:Nat→Value} {W0 w w':World} {v v':Value} {xs ys:List Nat} {m:Nat} (h:GB B e f W0 v xs w)
    (hown:w'.ownsRow B e 1 v' (xs.length+m) (xs.map f++ys.map f)) (hm:ys.length=m) (hg:w.grownBy w' v.ownBlock) (hnil:v'=.slice none 0 0 ↔ v=.slice none 0 0∧m=0):GB B e f W0 v' (xs++ys) w':=by
  obtain ⟨gv,cap,cur,rfl,hB,hcur,_⟩:=own_ofG h.own h.nz
  have hg':w.grownBy w' (some gv):=hg
  have s2:=hg'.size
  refine ⟨?_,fun e=>h.nz (hnil.1 e).1,?_,by have:=h.size;omega⟩
  · rw [List.length_append,List.map_append,hm];exact hown
  · exact h.below.grown hg' h.size (fun k e=>by cases e;exact hB)
theorem RB.news {W:World} {b o cap:Nat} {L:List Nat} (h:RB W (some ⟨b,o,none⟩) b o cap L):∀ j u,(L.map pV)[j]? =some u→W.cell? ((⟨b,o,none⟩:Addr).add j)=some u:=by
  intro j u hu
  rw [List.getElem?_map] at hu
  cases hj:L[j]? with
  | none=>rw [hj] at hu;cases hu
  | some x =>
    rw [hj] at hu
    obtain ⟨hl,hx⟩:=List.getElem?_eq_some_iff.1 hj
    cases hu
    have:=h.row j hl
    rw [hx] at this
    unfold Addr.add
    by_cases h0:j=0
    · subst h0;exact this
    · rw [if_neg h0];exact this
theorem nshift_rows (ao : Option Addr) (b o cap : Nat) (A : List Nat) (q r : Nat) (hq : q ≤ 1000) (hr : r < 32) (w : World) (h : RB w ao b o cap A) (hl : A.length ≤ 100000000) (hne : A ≠ []) :
    Calls Tryz.prog 171 #[.slice ao A.length cap, .int .i64 ((32 * q + r : Nat) : Int)] w fun e w' => ∃ v, e = .returned v ∧ Below w.heap.size w w' ∧ BigIn w' v (bv A * 2 ^ (32 * q + r)) := by
  obtain ⟨i0, hi, hz0, hz1, hz2⟩ := info_parts infoP
  obtain rfl := h.addr hne
  have hA0 : ((A.length : Int) == 0) = false := by rw [beq_eq_false_iff_ne]; have : 0 < A.length := List.length_pos_iff.2 hne; omega
  have e1 : ((32 * q + r : Nat) : Int) / 32 = (q : Int) := by omega
  have e2 : ((32 * q + r : Nat) : Int) % 32 = (r : Int) := by omega
  have hn0 : (0 : Int) ≤ ((32 * q + r : Nat) : Int) := by omega
  have hn1 : ((32 * q + r : Nat) : Int) < 100000 := by omega
  have hpow : Hid (bv (List.replicate q 0 ++ A) * 2 ^ r = bv A * 2 ^ (32 * q + r)) := by
    have := up_bv q 0 (bv A) A (by rw [Nat.pow_zero, Nat.mul_one])
    rw [Nat.add_zero] at this
    show bv (List.replicate q 0 ++ A) * 2 ^ r = _
    rw [this, Nat.mul_assoc, ← Nat.pow_add]
  have hr2 : (2 : Nat) ^ r < 4294967296 := by
    rw [show 4294967296 = 2 ^ 32 from by decide]
    exact Nat.pow_lt_pow_right (by decide) hr
  have e3 : (2 : Int) ^ r % 4294967296 = ((2 ^ r : Nat) : Int) := by
    have e : ((2 : Int) ^ r) = ((2 ^ r : Nat) : Int) := (Int.natCast_pow 2 r).symm
    rw [e]
    generalize 2 ^ r = x at *
    omega
  have HS : Hid (B32 A) := h.small
  generalize bv A * 2 ^ (32 * q + r) = N at *
  generalize 32 * q + r = n at *
  generalize hx : 2 ^ r = x at *
  go_enter Tryz.func171, Tryz.ntmps171
  go_wp2_with fail
  go_loopw [5, 6] (fun v a wr => ∃ i : Nat, i ≤ q ∧ a = .int .i64 (i : Int) ∧ GB w.heap.size 183 pV w v (List.replicate i 0) wr) (fun _ a _ => q - (intOf a).toNat)
  case atStart => exact ⟨0, by omega, rfl, GB.new w⟩
  case round =>
    obtain ⟨i, hiq, rfl, hG⟩ := hrel
    by_cases hlt : i < q
    · have hlt' : (i : Int) < (q : Int) := by omega
      as_aux_lemma =>
        go_wp2_with (first | (at_builtin; refine wpList_append_own _ rfl _ _ 203 rfl w.heap.size 183 i0 (.int .u32 0) 1 4 Tryz.underlying203 hi hz0 hz1 hz2 rfl (by decide) _ _ _ rfl (hG.own.alloc _) ⟨_, 0, none⟩ 1 1 [_] rfl rfl (cell_one_new _ _ _) (by intro u hu; simp at hu; subst hu; rfl) (by unfold maxLen; rw [List.length_replicate]; omega) (by rw [List.length_replicate]; omega) (by have := hG.size; simp; omega) ?_; intro v' w7 hown hgrow hnil; have hG7 := hG.push (x := 0) _ rfl hown hgrow hnil; clear hown hgrow hnil))
        refine ⟨⟨i + 1, by omega, by go_num, ?_⟩, by simp [intOf]; omega⟩
        rw [List.replicate_succ']
        exact hG7
    · obtain rfl : i = q := by omega
      have hlt' : ¬ (i : Int) < (i : Int) := by omega
      have hRn := h.below hG.below
      as_aux_lemma =>
        go_wp2_with (first
          | (at_builtin; refine wpList_append_own _ rfl _ _ 203 rfl w.heap.size 183 i0 (.int .u32 0) 1 4 Tryz.underlying203 hi hz0 hz1 hz2 rfl (by decide) _ _ _ rfl hG.own ⟨b, o, none⟩ A.length cap (A.map pV) rfl (by simp) hRn.news (by intro u hu; obtain ⟨y, _, rfl⟩ := List.mem_map.1 hu; rfl) (by rw [List.length_replicate]; unfold maxLen; omega) (by rw [List.length_replicate]; omega) hG.size ?_; intro v' w7 hown hgrow hnil; have hG7 := hG.pushes hown rfl hgrow hnil; clear hown hgrow hnil)
          | (go_at_call 175
             obtain ⟨g, cap3, hv3, hgB, hRB⟩ := hG7.rowP (b32_zeros HS.out)
             subst hv3
             with_reducible refine (ntimes_rows _ g 0 cap3 _ x hr2 w7 hRB (by rw [List.length_append, List.length_replicate]; omega)).mono ?_
             rintro e w' ⟨v5, rfl, hb5, hbig⟩))
        go_ret
        rw [hpow.out] at hbig
        exact ⟨_, rfl, hG7.below.trans (hb5.mono hG7.size), hbig⟩
theorem nshift_any {W:World} {v:Value} {N:Nat} (n:Nat) (hn:n≤30000) (h:BigAt W v N) (hs:Sm N) :
    Calls Tryz.prog 171 #[v,.int .i64 (n:Int)] W fun e w'=>∃ v,e=.returned v∧Below W.heap.size W w'∧BigAt w' v (N*2 ^ n):=by
  obtain ⟨ao,b,o,cap,L,rfl,hR,rfl,hT⟩:=h
  by_cases hL:L=[]
  · subst hL
    have hz:Hid (BigAt W (.slice ao 0 cap) (bv []*2 ^ n)):=by
      show BigAt W (.slice ao 0 cap) (0*2 ^ n)
      rw [Nat.zero_mul]
      exact ⟨ao,b,o,cap,[],rfl,hR,rfl,hT⟩
    clear hR hs
    go_enter Tryz.func171,Tryz.ntmps171
    go_wp2_with fail
    go_ret
    exact ⟨_,rfl,Below.refl _ _,hz.out⟩
  · have hlen:=hs.len hT rfl
    have:=nshift_rows ao b o cap L (n / 32) (n % 32) (by omega) (by omega) W hR (by omega) hL
    rw [show 32*(n / 32)+n % 32=n from by omega] at this
    exact this.mono fun e w' ⟨v,h1,h2,h3⟩=>⟨v,h1,h2,h3.big⟩
end Go.Proofs.YtibahfopmjiffaaGreatDoor.Rl
/- less, against: the document's whole numbers of layer 2. Own work of the verifier. -/
set_option maxRecDepth 100000
set_option maxHeartbeats 2000000
namespace Go.Proofs.YtibahfopmjiffaaGreatDoor.Rl
open Go.RowKit Soft
theorem less_part (x y ow:Nat) (hx:x < 4294967296) (hy:y < 4294967296) (ho:ow≤1):∃ p ow',p < 4294967296∧ow'≤1∧p+y+ow=x+4294967296*ow'∧IntKind.u32.wrap (-(ow:Int)+(x:Int) - (y:Int))=(p:Int)∧(-(ow:Int)+(x:Int) - (y:Int)) / 4294967296=-(ow':Int):=by
  by_cases h:y+ow≤x
  · exact ⟨x - y - ow,0,by omega,by omega,by omega,by rw [IntKind.wrap_u32'];omega,by omega⟩
  · exact ⟨x+4294967296 - y - ow,1,by omega,by omega,by omega,by rw [IntKind.wrap_u32'];omega,by omega⟩
theorem nless_rows (ao:Option Addr) (b o cap:Nat) (A:List Nat) (ao2:Option Addr) (b2 o2 cap2:Nat) (C:List Nat) (w:World) (h:RB w ao b o cap A) (k:RB w ao2 b2 o2 cap2 C) (tC:Trm C) (hle:bv C≤bv A) (hl:A.length≤1000000000) :
    Calls Tryz.prog 174 #[.slice ao A.length cap,.slice ao2 C.length cap2] w fun e w'=>∃ v,e=.returned v∧Below w.heap.size w w'∧BigIn w' v (bv A - bv C):=by
  obtain ⟨i0,hi,hz0,hz1,hz2⟩:=info_parts infoP
  have hCA:=Soft.len_le tC h.small hle
  go_enter Tryz.func174,Tryz.ntmps174
  go_wp2_with fail
  go_loopw [5,6,7] (fun v cr a wr=>∃ (i ow:Nat) (O:List Nat),cr=.int .i64 (-(ow:Int))∧a=.int .i64 (i:Int)∧ow≤1∧i≤A.length∧GB w.heap.size 183 pV w v O wr∧Hid (O.length=i∧B32 O∧bv O+lowP C i=lowP A i+4294967296 ^ i*ow)) (fun _ _ a _=>(A.length - (intOf a).toNat))
  case atStart=>exact ⟨0,0,[],rfl,rfl,by omega,by omega,GB.new w,⟨rfl,(fun x hx=>by cases hx),by simp [bv,lowP]⟩⟩
  case round =>
    obtain ⟨i,ow,O,rfl,rfl,ho,hiA,hG,hH⟩:=hrel
    have hB:=hG.below
    have hol:O.length=i:=hH.out.1
    have HO:Hid (B32 O):=hH.out.2.1
    by_cases u1:i < A.length
    · obtain ⟨p,ow',hp,ho',he,s1,s2⟩:=less_part (pt A i) (pt C i) ow (pt_lt h.small i) (pt_lt k.small i) ho
      have HS:Hid (bv (O++[p])+lowP C (i+1)=lowP A (i+1)+4294967296 ^ (i+1)*ow'):=apart_step hol hH.out.2.2 (by omega) (by omega)
      obtain rfl:=h.addr (by intro e;rw [e] at u1;simp at u1)
      have q1:wr.cell? ⟨b,o+i,none⟩=some (.int .u32 ((pt A i:Nat):Int)):=by rw [pt_in u1];exact (h.row.below hB (fun e=>h.row.lt e)) i u1
      have v1:(i:Int) < (A.length:Int):=by omega
      have hxA:=pt_lt h.small i
      have hyC:=pt_lt k.small i
      clear he
      by_cases u2:i < C.length
      · obtain rfl:=k.addr (by intro e;rw [e] at u2;simp at u2)
        have q2:wr.cell? ⟨b2,o2+i,none⟩=some (.int .u32 ((pt C i:Nat):Int)):=by rw [pt_in u2];exact (k.row.below hB (fun e=>k.row.lt e)) i u2
        have v2:(i:Int) < (C.length:Int):=by omega
        generalize pt A i=x at *
        generalize pt C i=y at *
        as_aux_lemma =>
          go_wp2_with (first | (at_builtin;refine wpList_append_own _ rfl _ _ 203 rfl w.heap.size 183 i0 (.int .u32 0) 1 4 Tryz.underlying203 hi hz0 hz1 hz2 rfl (by decide) _ _ _ rfl (hG.own.alloc _) ⟨_,0,none⟩ 1 1 [_] rfl rfl (cell_one_new _ _ _) (by intro u hu;simp at hu;subst hu;rfl) (by unfold maxLen;omega) (by omega) (by have:=hG.size;simp;omega) ?_;intro v' w7 hown hgrow hnil;have hG7:=hG.push (x:=p) _ rfl hown hgrow hnil;clear hown hgrow hnil))
          exact ⟨⟨i+1,ow',O++[p],rfl,by go_num,ho',by omega,hG7,⟨by rw [List.length_append,hol];rfl,b32_snoc HO.out hp,HS.out⟩⟩,by simp [intOf];omega⟩
      · have v2:¬ (i:Int) < (C.length:Int):=by omega
        rw [pt_out u2] at s1 s2
        rw [show ((0:Nat):Int)=0 from rfl,Int.sub_zero] at s1 s2
        generalize pt A i=x at *
        as_aux_lemma =>
          go_wp2_with (first | (at_builtin;refine wpList_append_own _ rfl _ _ 203 rfl w.heap.size 183 i0 (.int .u32 0) 1 4 Tryz.underlying203 hi hz0 hz1 hz2 rfl (by decide) _ _ _ rfl (hG.own.alloc _) ⟨_,0,none⟩ 1 1 [_] rfl rfl (cell_one_new _ _ _) (by intro u hu;simp at hu;subst hu;rfl) (by unfold maxLen;omega) (by omega) (by have:=hG.size;simp;omega) ?_;intro v' w7 hown hgrow hnil;have hG7:=hG.push (x:=p) _ rfl hown hgrow hnil;clear hown hgrow hnil))
          exact ⟨⟨i+1,ow',O++[p],rfl,by go_num,ho',by omega,hG7,⟨by rw [List.length_append,hol];rfl,b32_snoc HO.out hp,HS.out⟩⟩,by simp [intOf];omega⟩
    · have v1:¬ (i:Int) < (A.length:Int):=by omega
      obtain rfl:i=A.length:=by omega
      have hsum:bv O=bv A - bv C:=apart_end hol HO.out h.small hle hCA ho hH.out.2.2
      obtain ⟨g,cap3,rfl,hgB,hRB⟩:=hG.rowP HO.out
      have hT:=ntrim_in g 0 cap3 O wr hRB
      rw [hol] at hT
      as_aux_lemma =>
        go_wp2_with (go_at_call 217;with_reducible refine hT.mono ?_;rintro e w' ⟨v',rfl,rfl,hbig⟩)
        go_ret
        rw [hsum] at hbig
        exact ⟨_,rfl,hB,hbig⟩
end Go.Proofs.YtibahfopmjiffaaGreatDoor.Rl
