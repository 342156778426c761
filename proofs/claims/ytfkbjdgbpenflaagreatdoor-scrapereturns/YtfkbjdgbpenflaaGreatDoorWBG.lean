/- THE READER: number, float, others. Own work of the verifier. -/
import Derived.Test.YtfkbjdgbpenflaaGreatDoorWBE
import Derived.Test.YtfkbjdgbpenflaaGreatDoorWAF
import Derived.Test.YtfkbjdgbpenflaaGreatDoorWBF
set_option maxRecDepth 100000
set_option maxHeartbeats 4000000
namespace Go.Proofs.YtfkbjdgbpenflaaGreatDoor.Sc
open Go.RowKit Me
theorem label_ne:(85:TypeId)≠56:=by decide
theorem own_rd {u:World} {rb:Nat} {w W:World} {T:List UInt8} {n B:Nat} {v:Value} {L:List La.Lb} (h:La.OwnL B v L w) (hr:Rd u rb w T n W) (ha:∃ S k,w.heap[rb]? =some (.cells #[.string S,.int .i64 k] 56)):La.OwnL B v L W:=by
 obtain ⟨S,k,ha⟩:=ha
 exact hr.ch.row h (fun x e c=>own_notype h ha label_ne (by rw [e,c]))
def NmR (u:World) (rb:Nat) (w0:World) (T name:List UInt8) (L:List La.Lb) (m:Nat) (e:Ending) (W:World):Prop :=
 (∃ b,(cut10 T).2.2=true∧spl (cut10 T).1=some (La.printT name L,b)∧e=.returned (.string ⟨b.toArray⟩)∧Rd u rb w0 (cut10 T).2.1 m W) ∨
 ((∀ b,(cut10 T).2.2=true→spl (cut10 T).1≠some (La.printT name L,b))∧e=gaveUp 5 m∧∃ T',Rd u rb w0 T' m W)
theorem number_any (u:World) (rb:Nat) (T name:List UInt8) (L:List La.Lb) (lv:Value) (B n:Nat) (w0 w:World) (h:Rd u rb w0 T n w) (hm:Mx u) (hT:T.length≤4194304) (hn:n≤4611686018427387904)
  (hL:La.OwnL B lv L w) (hv:∀ a ∈ L,a.2.length≤9223372036854775807) (hP:(La.printT name L).length≤140737488355328) :
  Calls Tryz.prog 169 #[.pointer (some ⟨rb,0,none⟩),.string ⟨name.toArray⟩,lv] w fun e w'=>NmR u rb w0 T name L (n+1) e w':=by
 have HNu:La.HidC _ _ _ _ _:=numbered_any u rb T n w w h.re hm hT hn
 have HQ:Hid (∀ e W,((∃ b,(cut10 T).2.2=true∧spl (cut10 T).1=some (La.printT name L,b)∧e=.returned (.string ⟨b.toArray⟩)∧Rd u rb w (cut10 T).2.1 (n+1) W)∨((∀ b,(cut10 T).2.2=true→spl (cut10 T).1≠some (La.printT name L,b))∧e=gaveUp 5 (n+1)∧∃ T',Rd u rb w T' (n+1) W))→NmR u rb w0 T name L (n+1) e W):=fun e W k=>by
  rcases k with ⟨b,k1,k2,k3,k4⟩ | ⟨k1,k2,T',k3⟩
  ·exact Or.inl ⟨b,k1,k2,k3,h.then k4⟩
  ·exact Or.inr ⟨k1,k2,T',h.then k3⟩
 have HNo:Hid (∀ S W,Rd u rb w S (n+1) W→Calls Tryz.prog 29 #[.pointer (some ⟨rb,0,none⟩),.bool false] W fun e w'=>e=gaveUp 5 (n+1)∧w'=W):=fun S W k=>must_no u rb S (n+1) w W k
 have HYes:Hid (∀ W,Calls Tryz.prog 29 #[.pointer (some ⟨rb,0,none⟩),.bool true] W fun e w'=>e=.returned (.tuple #[])∧w'=W):=fun W=>must_yes rb W
 obtain ⟨ao,lb,cap,rfl,-⟩:=hL.open
 have HPr:Hid (∀ S W,Rd u rb w S (n+1) W→Calls Tryz.prog 121 #[.string ⟨name.toArray⟩,.slice ao L.length cap] W fun r w'=>r=.returned (.string ⟨(La.printT name L).toArray⟩)∧Below W.heap.size W w'):=fun S W k=>by
  obtain ⟨ao',b',cap',e,hao,hR,hc1,hc2⟩:=(own_rd hL k ⟨_,_,h.at_⟩).open
  cases e
  exact La.cprint_any name ao b' 0 cap L hao (by omega) hv hP W hR
 generalize n+1=m at *
 clear h hm hT hn hL hv hP
 go_enter Tryz.func169,Tryz.ntmps169
 go_wp2_with fail
 refine Calls.mono HNu.out ?_
 rintro e w1 (⟨a,b,hc,hs,rfl,hr⟩ | ⟨hc,hs,rfl,hr⟩ | ⟨hc,rfl,hr⟩)
 ·have D2:La.HidC _ _ _ _ _:=HPr.out _ w1 hr
  by_cases ha:a=La.printT name L
  ·subst ha
   have HF:Hid (∀ W,Below w1.heap.size w1 W→NmR u rb w0 T name L m (.returned (.string ⟨b.toArray⟩)) W):=fun W hb=>HQ.out _ _ (Or.inl ⟨b,hc,hs,rfl,hr.below hb⟩)
   clear HNu HQ HNo HPr hc hs hr
   go_wp2_with fail
   refine Calls.mono D2.out ?_
   rintro e w2 ⟨rfl,hb2⟩
   have HF2:=hid_of (HF.out w2 hb2)
   clear HF hb2 D2
   go_wp2_with fail
   refine Calls.mono (HYes.out _) ?_
   rintro e w3 ⟨rfl,rfl⟩
   go_wp2_with fail
   go_ret
   exact HF2.out
  ·have HF:Hid (∀ W,Below w1.heap.size w1 W→NmR u rb w0 T name L m (gaveUp 5 m) W):=fun W hb=>HQ.out _ _ (Or.inr ⟨(fun b' _ k=>ha (by rw [hs] at k;cases k;rfl)),rfl,_,hr.below hb⟩)
   have HN2:Hid (∀ W,Below w1.heap.size w1 W→_):=fun W hb=>HNo.out _ W (hr.below hb)
   have ha':(a == La.printT name L)=false:=beq_eq_false_iff_ne.2 ha
   generalize La.printT name L=P at *
   clear HNu HQ HNo HPr hc hs hr ha HYes
   go_wp2_with fail
   refine Calls.mono D2.out ?_
   rintro e w2 ⟨rfl,hb2⟩
   have HF2:=hid_of (HF.out w2 hb2)
   have D3:La.HidC _ _ _ _ _:=HN2.out w2 hb2
   clear HF hb2 D2 HN2
   go_wp2_with fail
   refine Calls.mono D3.out ?_
   rintro e w3 ⟨rfl,rfl⟩
   go_wp2_with fail
   exact ⟨rfl,HF2.out⟩
 ·have HF:=hid_of (HQ.out (gaveUp 5 m) w1 (Or.inr ⟨(fun b' _ k=>by rw [hs] at k;cases k),rfl,_,hr⟩))
  clear HNu HQ HNo HPr hc hs hr HYes
  go_wp2_with fail
  exact ⟨rfl,HF.out⟩
 ·have HF:=hid_of (HQ.out (gaveUp 5 m) w1 (Or.inr ⟨(fun b' k=>by rw [hc] at k;cases k),rfl,_,hr⟩))
  clear HNu HQ HNo HPr hc hr HYes
  go_wp2_with fail
  exact ⟨rfl,HF.out⟩
def othR (name S:List UInt8):Option (List La.Lb):=if S=[] then some [] else if Lib.hasSuffix S [44]=true then labR name (name++[123]++Lib.trimSuffix S [44]++[125]) else none
theorem others_any (u:World) (rb:Nat) (T name S:List UInt8) (n:Nat) (w0 w:World) (h:Rd u rb w0 T n w) (hS:S.length≤4194304) (hN:name.length≤4194304) :
  Calls Tryz.prog 167 #[.pointer (some ⟨rb,0,none⟩),.string ⟨name.toArray⟩,.string ⟨S.toArray⟩] w fun e w'=>Below w.heap.size w w'∧((∃ L v,othR name S=some L∧e=.returned v∧La.OwnL w.heap.size v L w')∨(othR name S=none∧e=gaveUp 5 n)):=by
 have HNo:Hid (∀ W,Below w.heap.size w W→Calls Tryz.prog 29 #[.pointer (some ⟨rb,0,none⟩),.bool false] W fun e w'=>e=gaveUp 5 n∧w'=W):=fun W k=>must_no u rb T n w0 W (h.below k)
 have HYes:Hid (∀ W,Calls Tryz.prog 29 #[.pointer (some ⟨rb,0,none⟩),.bool true] W fun e w'=>e=.returned (.tuple #[])∧w'=W):=fun W=>must_yes rb W
 have HCs:Hid (∀ W,Calls Tryz.prog 189 #[.string ⟨S.toArray⟩,.string ⟨#[44]⟩] W fun e w'=>e=.returned (.tuple #[.string ⟨(Lib.trimSuffix S [44]).toArray⟩,.bool (Lib.hasSuffix S [44])])∧w'=W):=fun W=>Tryz.strings_CutSuffix ⟨S.toArray⟩ ⟨#[44]⟩ W (by show S.toArray.size≤_;simp;omega)
 have htl:(Lib.trimSuffix S [44]).length≤S.length:=by
  unfold Lib.trimSuffix
  split
  ·simp
  ·exact Nat.le_refl _
 have HLb:Hid (∀ W,Below w.heap.size w W→_):=fun W k=>labels_any u rb T name (name++[123]++Lib.trimSuffix S [44]++[125]) n w0 W (h.below k) (by simp;omega)
 by_cases h0:S=[]
 ·subst h0
  have hO:othR name []=some []:=by unfold othR;simp
  have HF:Hid (Below w.heap.size w w∧((∃ L v,othR name []=some L∧Ending.returned (.slice none 0 0)=.returned v∧La.OwnL w.heap.size v L w)∨(othR name []=none∧Ending.returned (.slice none 0 0)=gaveUp 5 n))):=⟨Below.refl _ _,Or.inl ⟨[],_,hO,rfl,World.ownsRow_nil _ _ _ _⟩⟩
  clear h HNo HYes HCs HLb htl hO
  go_enter Tryz.func167,Tryz.ntmps167
  go_wp2_with fail
  go_ret
  exact HF.out
 ·have h0':(S == [])=false:=by rw [beq_eq_false_iff_ne];exact h0
  cases hE:Lib.hasSuffix S [44]
  ·have hO:othR name S=none:=by unfold othR;rw [if_neg h0,if_neg (by rw [hE];decide)]
   have HF:Hid (∀ e,e=gaveUp 5 n→(Below w.heap.size w w∧((∃ L v,othR name S=some L∧e=.returned v∧La.OwnL w.heap.size v L w)∨(othR name S=none∧e=gaveUp 5 n)))):=fun e k=>⟨Below.refl _ _,Or.inr ⟨hO,k⟩⟩
   rw [hE] at HCs
   have D3:La.HidC _ _ _ _ _:=HNo.out w (Below.refl _ _)
   clear h HNo HYes HLb htl hO h0 hE
   go_enter Tryz.func167,Tryz.ntmps167
   go_wp2_with fail
   refine Calls.mono (HCs.out _) ?_
   rintro e w1 ⟨rfl,rfl⟩
   go_wp2_with fail
   refine Calls.mono D3.out ?_
   rintro e w3 ⟨rfl,rfl⟩
   go_wp2_with fail
   exact ⟨rfl,HF.out _ rfl⟩
  ·have hO:othR name S=labR name (name++[123]++Lib.trimSuffix S [44]++[125]):=by unfold othR;rw [if_neg h0,if_pos hE]
   rw [hO]
   have D2:La.HidC _ _ _ _ _:=HLb.out w (Below.refl _ _)
   rw [hE] at HCs
   generalize Lib.trimSuffix S [44]=X at *
   have s1:∀ W,(Op.stringOp .add ⟨name.toArray⟩ ⟨#[123]⟩).run Tryz.prog W=.ok (.string ⟨(name++[123]).toArray⟩) W:=fun W=>La.sadd name [123] (by simp;omega) W
   have s2:∀ W,(Op.stringOp .add ⟨(name++[123]).toArray⟩ ⟨X.toArray⟩).run Tryz.prog W=.ok (.string ⟨(name++[123]++X).toArray⟩) W:=fun W=>La.sadd _ X (by simp;omega) W
   have s3:∀ W,(Op.stringOp .add ⟨(name++[123]++X).toArray⟩ ⟨#[125]⟩).run Tryz.prog W=.ok (.string ⟨(name++[123]++X++[125]).toArray⟩) W:=fun W=>La.sadd _ [125] (by simp;omega) W
   generalize name++[123]++X++[125]=Z at *
   generalize name++[123]++X=Y at *
   generalize name++[123]=V at *
   clear h HNo HLb htl hO h0 hE
   go_enter Tryz.func167,Tryz.ntmps167
   go_wp2_with fail
   refine Calls.mono (HCs.out _) ?_
   rintro e w1 ⟨rfl,rfl⟩
   go_wp2_with fail
   refine Calls.mono (HYes.out _) ?_
   rintro e w3 ⟨rfl,rfl⟩
   go_wp2_with fail
   refine Calls.mono D2.out ?_
   rintro e w4 ⟨hb4,⟨L,v,q1,rfl,q3⟩ | ⟨q1,rfl⟩⟩
   ·obtain ⟨la,lg,lc,rfl,-⟩:=own_form q3
    have HB4:=hid_of hb4
    have HQ1:=hid_of q1
    have HQ3:=hid_of q3
    clear hb4 q1 q3 D2 HYes HCs
    go_wp2_with fail
    go_ret
    exact ⟨HB4.out,Or.inl ⟨L,_,HQ1.out,rfl,HQ3.out⟩⟩
   ·have HF:=hid_of hb4
    have HF1:=hid_of q1
    clear hb4 q1 D2 HYes HCs
    go_wp2_with fail
    exact ⟨rfl,HF.out,Or.inr ⟨HF1.out,rfl⟩⟩
def morR (name S:List UInt8):Option (List UInt8 × List UInt8 × List UInt8):=(spl S).bind fun ab =>
 if Lib.hasSuffix ab.1 [34,125]=true then
  (if 0≤Lib.lastIndex (Lib.trimSuffix ab.1 [34,125]) (name++[61,34]) then some ((Lib.trimSuffix ab.1 [34,125]).take (Lib.lastIndex (Lib.trimSuffix ab.1 [34,125]) (name++[61,34])).toNat,(Lib.trimSuffix ab.1 [34,125]).drop ((Lib.lastIndex (Lib.trimSuffix ab.1 [34,125]) (name++[61,34])).toNat+(name.length+2)),ab.2) else none) else none
def MoR (u:World) (rb:Nat) (w0:World) (T name:List UInt8) (m:Nat) (e:Ending) (W:World):Prop :=
 (∃ x y z,(cut10 T).2.2=true∧morR name (cut10 T).1=some (x,y,z)∧e=.returned (.tuple #[.string ⟨x.toArray⟩,.string ⟨y.toArray⟩,.string ⟨z.toArray⟩])∧Rd u rb w0 (cut10 T).2.1 m W) ∨
 (((cut10 T).2.2=true→morR name (cut10 T).1=none)∧e=gaveUp 5 m∧∃ T',Rd u rb w0 T' m W)
theorem spl_le2 {S a b:List UInt8} (h:spl S=some (a,b)):a.length≤S.length∧b.length≤S.length:=by
 unfold spl at h
 split at h
 ·simp only [Option.some.injEq,Prod.mk.injEq] at h
  obtain ⟨rfl,rfl⟩:=h
  simp only [List.length_take,List.length_drop]
  omega
 ·cases h
theorem lastI_le (s sub:List UInt8):-1≤Lib.lastIndex s sub∧(0≤Lib.lastIndex s sub→Lib.lastIndex s sub+(sub.length:Int)≤(s.length:Int)):=by
 unfold Lib.lastIndex
 split
 ·rename_i h
  have:=lastOcc_lt s sub (s.length - sub.length+1)
  omega
 ·exact ⟨by omega,fun k=>by omega⟩
theorem lastI_any (t V:List UInt8) (h:t.length≤4194304) (W:World):Calls Tryz.prog 187 #[.string ⟨t.toArray⟩,.string ⟨V.toArray⟩] W fun e w'=>e=.returned (.int .i64 (Lib.lastIndex t V))∧w'=W:=Tryz.strings_LastIndex ⟨t.toArray⟩ ⟨V.toArray⟩ (by show t.toArray.size < _;simp;omega) W
theorem cutS_any (t:List UInt8) (h:t.length≤4194304) (W:World):Calls Tryz.prog 189 #[.string ⟨t.toArray⟩,.string ⟨#[34,125]⟩] W fun e w'=>e=.returned (.tuple #[.string ⟨(Lib.trimSuffix t [34,125]).toArray⟩,.bool (Lib.hasSuffix t [34,125])])∧w'=W:=Tryz.strings_CutSuffix ⟨t.toArray⟩ ⟨#[34,125]⟩ W (by show t.toArray.size≤_;simp;omega)
theorem trimS_len (S X:List UInt8):(Lib.trimSuffix S X).length≤S.length:=by
 unfold Lib.trimSuffix
 split
 ·simp
 ·exact Nat.le_refl _
theorem more_any (u:World) (rb:Nat) (T name:List UInt8) (n:Nat) (w0 w:World) (h:Rd u rb w0 T n w) (hm:Mx u) (hT:T.length≤4194304) (hn:n≤4611686018427387904) (hN:name.length≤4194304) :
  Calls Tryz.prog 166 #[.pointer (some ⟨rb,0,none⟩),.string ⟨name.toArray⟩] w fun e w'=>MoR u rb w0 T name (n+1) e w':=by
 have HNu:La.HidC _ _ _ _ _:=numbered_any u rb T n w0 w h hm hT hn
 have HQ:Hid (∀ e W,_→MoR u rb w0 T name (n+1) e W):=fun e W k=>k
 have HNo:Hid (∀ S W,Rd u rb w0 S (n+1) W→Calls Tryz.prog 29 #[.pointer (some ⟨rb,0,none⟩),.bool false] W fun e w'=>e=gaveUp 5 (n+1)∧w'=W):=fun S W k=>must_no u rb S (n+1) w0 W k
 have HYes:Hid (∀ W,Calls Tryz.prog 29 #[.pointer (some ⟨rb,0,none⟩),.bool true] W fun e w'=>e=.returned (.tuple #[])∧w'=W):=fun W=>must_yes rb W
 have hcl:(cut10 T).1.length≤4194304:=by have:=cut_len T;omega
 have hsl:∀ a b,spl (cut10 T).1=some (a,b)→a.length≤4194304:=fun a b k=>by have:=(spl_le2 k).1;omega
 have sA:∀ W,(Op.stringOp .add ⟨name.toArray⟩ ⟨#[61,34]⟩).run Tryz.prog W=.ok (.string ⟨(name++[61,34]).toArray⟩) W:=fun W=>La.sadd name [61,34] (by simp;omega) W
 have hbl:(name++[(61:UInt8),34]).length=name.length+2:=by simp
 generalize n+1=m at *
 clear h hm hT hn hcl
 go_enter Tryz.func166,Tryz.ntmps166
 go_wp2_with fail
 refine Calls.mono HNu.out ?_
 rintro e w1 (⟨a,b,hc,hs,rfl,hr⟩ | ⟨hc,hs,rfl,hr⟩ | ⟨hc,rfl,hr⟩)
 ·have hal:=hsl a b hs
  have HCs:Hid (∀ W,Calls Tryz.prog 189 #[.string ⟨a.toArray⟩,.string ⟨#[34,125]⟩] W fun e w'=>e=.returned (.tuple #[.string ⟨(Lib.trimSuffix a [34,125]).toArray⟩,.bool (Lib.hasSuffix a [34,125])])∧w'=W):=fun W=>cutS_any a hal W
  have htl:=trimS_len a [34,125]
  have HLi:Hid (∀ W,Calls Tryz.prog 187 #[.string ⟨(Lib.trimSuffix a [34,125]).toArray⟩,.string ⟨(name++[61,34]).toArray⟩] W fun e w'=>e=.returned (.int .i64 (Lib.lastIndex (Lib.trimSuffix a [34,125]) (name++[61,34])))∧w'=W):=fun W=>lastI_any _ _ (by omega) W
  obtain ⟨l1,l2⟩:=lastI_le (Lib.trimSuffix a [34,125]) (name++[61,34])
  have HM:Hid (morR name (cut10 T).1=if Lib.hasSuffix a [34,125]=true then (if 0≤Lib.lastIndex (Lib.trimSuffix a [34,125]) (name++[61,34]) then some ((Lib.trimSuffix a [34,125]).take (Lib.lastIndex (Lib.trimSuffix a [34,125]) (name++[61,34])).toNat,(Lib.trimSuffix a [34,125]).drop ((Lib.lastIndex (Lib.trimSuffix a [34,125]) (name++[61,34])).toNat+(name.length+2)),b) else none) else none):=by unfold Hid morR;rw [hs];rfl
  have HR:=hid_of hr
  have HC:=hid_of hc
  clear HNu hs hr hc hsl
  cases hE:Lib.hasSuffix a [34,125]
  ·have HF:=hid_of (HQ.out (gaveUp 5 m) w1 (Or.inr ⟨(fun _=>by rw [HM.out,if_neg (by rw [hE];decide)]),rfl,_,HR.out⟩))
   rw [hE] at HCs
   have D3:La.HidC _ _ _ _ _:=HNo.out _ w1 HR.out
   generalize Lib.trimSuffix a [34,125]=t at *
   generalize Lib.lastIndex t (name++[61,34])=i at *
   generalize name++[(61:UInt8),34]=V at *
   clear HQ HNo HYes HM HR HC hE l1 l2 htl hal
   go_wp2_with fail
   refine Calls.mono (HCs.out _) ?_
   rintro e w2 ⟨rfl,rfl⟩
   go_wp2_with fail
   refine Calls.mono (HLi.out _) ?_
   rintro e w3 ⟨rfl,rfl⟩
   go_wp2_with fail
   refine Calls.mono D3.out ?_
   rintro e w4 ⟨rfl,rfl⟩
   go_wp2_with fail
   exact ⟨rfl,HF.out⟩
  ·by_cases hz:0≤Lib.lastIndex (Lib.trimSuffix a [34,125]) (name++[61,34])
   ·have l3:=l2 hz
    have HF:=hid_of (HQ.out _ w1.drew (Or.inl ⟨_,_,_,HC.out,(by rw [HM.out,if_pos hE,if_pos hz]),rfl,HR.out.below (bel_dn (Below.refl _ _) 1)⟩))
    rw [hE] at HCs
    obtain ⟨i,hi⟩:=Int.eq_ofNat_of_zero_le hz
    rw [hi] at HLi HF l3
    simp only [Int.toNat_natCast] at HF
    rw [hbl] at l3
    generalize Lib.trimSuffix a [34,125]=t at *
    generalize name++[(61:UInt8),34]=V at *
    have hit:i+(name.length+2)≤t.length:=by omega
    clear HQ HNo HM HR HC hE l1 l2 l3 hz hi
    go_wp2_with fail
    refine Calls.mono (HCs.out _) ?_
    rintro e w2 ⟨rfl,rfl⟩
    go_wp2_with fail
    refine Calls.mono (HLi.out _) ?_
    rintro e w3 ⟨rfl,rfl⟩
    go_wp2_with fail
    refine Calls.mono (HYes.out _) ?_
    rintro e w4 ⟨rfl,rfl⟩
    have hw1:IntKind.i64.wrap ((i:Int)+(V.length:Int))=((i+(name.length+2):Nat):Int):=by rw [IntKind.wrap_i64,hbl];omega
    go_upto_region 6 with fail
    go_region
    rw [La.take_bytes,La.drop_bytes]
    go_wp2_with fail
    go_ret3
    exact HF.out
   ·have HF:=hid_of (HQ.out (gaveUp 5 m) w1 (Or.inr ⟨(fun _=>by rw [HM.out,if_pos hE,if_neg hz]),rfl,_,HR.out⟩))
    rw [hE] at HCs
    have D3:La.HidC _ _ _ _ _:=HNo.out _ w1 HR.out
    generalize Lib.trimSuffix a [34,125]=t at *
    generalize Lib.lastIndex t (name++[61,34])=i at *
    have hi1:i=-1:=by omega
    subst hi1
    generalize name++[(61:UInt8),34]=V at *
    clear HQ HNo HYes HM HR HC hE l1 l2 htl hal hz
    go_wp2_with fail
    refine Calls.mono (HCs.out _) ?_
    rintro e w2 ⟨rfl,rfl⟩
    go_wp2_with fail
    refine Calls.mono (HLi.out _) ?_
    rintro e w3 ⟨rfl,rfl⟩
    go_wp2_with fail
    refine Calls.mono D3.out ?_
    rintro e w4 ⟨rfl,rfl⟩
    go_wp2_with fail
    exact ⟨rfl,HF.out⟩
 ·have HF:=hid_of (HQ.out (gaveUp 5 m) w1 (Or.inr ⟨(fun _=>by unfold morR;rw [hs];rfl),rfl,_,hr⟩))
  clear HNu HQ HNo hc hs hr HYes sA
  go_wp2_with fail
  exact ⟨rfl,HF.out⟩
 ·have HF:=hid_of (HQ.out (gaveUp 5 m) w1 (Or.inr ⟨(fun k=>by rw [hc] at k;cases k),rfl,_,hr⟩))
  clear HNu HQ HNo hc hr HYes sA
  go_wp2_with fail
  exact ⟨rfl,HF.out⟩
theorem step_cn {w:World} {ops:Array Oper} {o:Oper} {a:Act} {K:Act→World→Prop} {Q:Exit→Act→World→Prop} {E:Prop} (hgd:o.guard=none) (s x:Operand)
  (ho:o.op=.call { callee:=.builtin .append,args:=#[s,x],argTypes:=#[42,42] }) {B:Nat} {v:Value} {C:List Cn} (hs:a.eval s=v) (hG:w.ownsRow B 79 2 v C.length (fl C)) (hB:B≤w.heap.size) (hl:C.length≤1048576) (k:Nat) (hx:a.eval x=.slice (some ⟨k,0,none⟩) 1 1) (c:Cn)
  (hk:w.heap[k]? =some (.cells #[.int .i64 c.1,.int .u64 (c.2:Int)] 79 (0,0)))
  (hh:∀ g cap w',w'.ownsRow B 79 2 (.slice (some ⟨g,0,none⟩) (C.length+1) cap) (C.length+1) (fl (C++[c]))→w.grownBy w' v.ownBlock→K (a.put o.dst (.slice (some ⟨g,0,none⟩) (C.length+1) cap)) w') :
  if Region.wanted o (yielded ops a.tmps)=true then Oper.wp Tryz.prog o a w K Q else E:=by
 obtain ⟨i0,hi,hz0,hz1,hz2⟩:=info_parts infoC
 refine step_append_lies w hgd s x _ ho B 79 i0 (.agg #[.int .i64 0,.int .u64 0]) 2 16 Tryz.underlying42 hi hz0 hz1 hz2 rfl (by decide) v C.length (fl C) hs hG ⟨k,0,none⟩ 1 1 (fl [c]) hx (by rw [fl_length];rfl) (World.news_of_block (by simpa [fl] using hk)) (fl_one _) (by omega) (by unfold maxLen;omega) (by omega) hB _ rfl ?_
 intro g cap w' h1 h2 h3 h4
 exact hh g cap w' (by rw [fl_append];exact h1) h2
theorem idx_hi (p i:Nat) (h1:1≤p) (h2:p≤14) (hi:i < (64 - p)*2 ^ p) (W:World):Calls Tryz.prog 190 #[.int .i64 (p:Int),.int .i64 (hiV p i:Int)] W fun e w'=>e=.returned (.tuple #[.int .i64 (i:Int),.int .i64 0])∧∃ n,w'=W.drewN n:=by
 have ht:=hi_top hi h2
 have hk:=Nat.pos_of_ne_zero (Nat.pos_iff_ne_zero.1 (Nat.two_pow_pos (kk (2 ^ p) i)))
 have hb:=between (P:=2 ^ p) (i:=i) (x:=hiV p i) (Nat.two_pow_pos p) (by unfold hiV;omega) (by unfold hiV;omega)
 refine (index_yes p (hiV p i) h1 h2 (by unfold hiV;omega) W).mono ?_
 rintro e w' ⟨⟨n,rfl⟩,k,hk,rfl⟩
 have:k=kk (2 ^ p) i:=isK_uniq hk hb.1
 subst this
 rw [hb.2]
 exact ⟨rfl,n,rfl⟩
theorem high_hi (p i:Nat) (h1:1≤p) (h2:p≤14) (hi:i < (64 - p)*2 ^ p) (W:World):Calls Tryz.prog 74 #[.int .i64 (p:Int),.int .i64 (i:Int)] W fun e w'=>e=.returned (.tuple #[.int .i64 (hiV p i:Int),.int .i64 0])∧∃ n,w'=W.drewN n:=by
 refine (high_of (fun W=>bounds_yes p i h1 h2 hi W) W).mono ?_
 rintro e w' ⟨k,rfl⟩
 exact ⟨rfl,k⟩
theorem own_setG {W:World} {B:Nat} {e:TypeId} {s n:Nat} {v:Value} {xs:List Value} (h:W.ownsRow B e s v n xs) {a:Addr} (ha:v.ownBlock≠some a.block) (u:Value):(W.setCell a u).ownsRow B e s v n xs:=by
 refine ⟨h.1,?_⟩
 rcases h.2 with k | ⟨g,cap,cur,hv,hg,hh,r⟩
 ·exact Or.inl k
 ·exact Or.inr ⟨g,cap,cur,hv,hg,by rw [Below.heap_setCell _ _ _ _ (fun e=>ha (by rw [hv,e];rfl))];exact hh,r⟩
theorem cnt_fin {w w6:World} {vb B N m:Nat} {x:Vl} {lv cv cv':Value} {C:List Cn} {xs:List Value} (hb:w6.heap[vb]? =some (.cells (vc x lv cv) 45)) (ho:w6.ownsRow B 79 2 cv' m xs) (hv:vb < B) (hc:Chg (fun b=>b=vb∨cv.ownBlock=some b) w w6) :
  ((w6.setCell ⟨vb,6,none⟩ cv').setCell ⟨vb,7,none⟩ (.int .u64 (N:Int))).heap[vb]? =some (.cells (vc { x with cs:=C,n:=N } lv cv') 45)∧((w6.setCell ⟨vb,6,none⟩ cv').setCell ⟨vb,7,none⟩ (.int .u64 (N:Int))).ownsRow B 79 2 cv' m xs∧Chg (fun b=>b=vb∨cv.ownBlock=some b) w ((w6.setCell ⟨vb,6,none⟩ cv').setCell ⟨vb,7,none⟩ (.int .u64 (N:Int))):=by
 have h1:=Lib.heap_setCell_same (i:=6) hb cv'
 have h2:=Lib.heap_setCell_same (i:=7) h1 (.int .u64 (N:Int))
 have n1:=own_neG ho hv
 refine ⟨?_,own_setG (own_setG ho n1 _) n1 _,?_⟩
 ·rw [h2]
  simp
 ·exact (hc.trans (chg_set _ _ _) (fun b e=>Or.inl (Or.inl e))).trans (chg_set _ _ _) (fun b e=>Or.inl (Or.inl e))
theorem count_ok (u:World) (rb vb B p i N:Nat) (T:List UInt8) (n:Nat) (x:Vl) (lv cv:Value) (w:World) (_h:Rd u rb w T n w) (hp1:1≤p) (hp2:p≤14) (hi:i < (64 - p)*2 ^ p)
  (hb:w.heap[vb]? =some (.cells (vc x lv cv) 45)) (hc:w.ownsRow B 79 2 cv x.cs.length (fl x.cs)) (hB:B≤w.heap.size) (hvB:vb < B) (hl:x.cs.length≤1048576) (hlast:∀ c,x.cs.getLast? =some c→c.1 < (i:Int)) (hN:x.n < N) (hN2:N < 18446744073709551616) :
  Calls Tryz.prog 168 #[.pointer (some ⟨rb,0,none⟩),.int .i64 (p:Int),.pointer (some ⟨vb,0,none⟩),.int .u64 (hiV p i:Int),.int .u64 (N:Int)] w fun e w'=>e=.returned (.tuple #[])∧∃ cv',w'.heap[vb]? =some (.cells (vc { x with cs:=x.cs++[((i:Int),N - x.n)],n:=N } lv cv') 45)∧w'.ownsRow B 79 2 cv' (x.cs.length+1) (fl (x.cs++[((i:Int),N - x.n)]))∧Chg (fun b=>b=vb∨cv.ownBlock=some b) w w':=by
 have ht:=hi_top hi hp2
 have hkp:=Nat.two_pow_pos (kk (2 ^ p) i)
 have hhv:hiV p i < 9223372036854775808:=by unfold hiV;omega
 have HIx:Hid (∀ W,_):=idx_hi p i hp1 hp2 hi
 have HHi:Hid (∀ W,_):=high_hi p i hp1 hp2 hi
 have HYes:Hid (∀ W,Calls Tryz.prog 29 #[.pointer (some ⟨rb,0,none⟩),.bool true] W fun e w'=>e=.returned (.tuple #[])∧w'=W):=fun W=>must_yes rb W
 obtain ⟨ca,cg,cc,rfl,hca,-⟩:=own_slice hc
 generalize hiV p i=H at *
 have hw1:IntKind.i64.wrap (H:Int)=(H:Int):=by rw [IntKind.wrap_i64];omega
 have hfl:(fl x.cs).length=x.cs.length*2:=fl_length _
 have HFG:Hid (∀ m (h:m < x.cs.length),(fl x.cs)[m*2]? =some (.int .i64 x.cs[m].1)∧x.cs.getLast? =x.cs[x.cs.length - 1]?):=fun m h=>⟨(fl_get x.cs m h).1,List.getLast?_eq_getElem? ..⟩
 have HLn:Hid (∀ (k:Cn),(fl (x.cs++[k]))=fl x.cs++fl [k]):=fun k=>fl_append _ _
 obtain ⟨len,hlen⟩:∃ len,x.cs.length=len:=⟨_,rfl⟩
 have HLe:=hid_of hlen
 have HBx:Hid (w.heap[vb]? =some (.cells (vc x lv (.slice ca len cc)) 45)):=by rw [← hlen];exact hb
 have HC:Hid (w.ownsRow B 79 2 (.slice ca len cc) len (fl x.cs)):=by rw [← hlen];exact hc
 have HCa:Hid (0 < len→ca=some ⟨cg,0,none⟩):=by rw [← hlen];exact hca
 have HLa:=hid_of hlast
 rw [hlen] at hl ⊢
 clear hi ht hkp hb hc hca hlast hfl hlen
 go_enter Tryz.func168,Tryz.ntmps168
 go_wp2_with fail
 refine Calls.mono (HIx.out _) ?_
 rintro e w1 ⟨rfl,k1,rfl⟩
 go_wp2_with fail
 refine Calls.mono (HHi.out _) ?_
 rintro e w2 ⟨rfl,k2,rfl⟩
 have hbk:=HBx.out
 have f6:w.frozen? ⟨vb,6,none⟩=false:=by simp [World.frozen?,hbk]
 have f7:w.frozen? ⟨vb,7,none⟩=false:=by simp [World.frozen?,hbk]
 obtain ⟨c0,c1,c2,c3,c4,c5,c6,c7,c8,c9,c10⟩:=elev hbk
 have hgt:((x.n:Int) < (N:Int)):=by omega
 have hsub:IntKind.u64.wrap ((N:Int) - (x.n:Int))=((N - x.n:Nat):Int):=by rw [IntKind.wrap_u64];omega
 cases len with
 | zero =>
  clear HLa HFG
  go_upto_region 5 with (go_at_call 29;refine Calls.mono (HYes.out _) ?_;rintro e w3 ⟨rfl,rfl⟩)
  have hxa:=hkN' HBx.out (bt (bel_dn (Below.refl _ _) (k1+k2+1)) (bel1 (w.drewN (k1+k2+1)) (.cells #[.int .i64 (i:Int),.int .u64 ((N - x.n:Nat):Int)] 79)))
  obtain ⟨z0,z1,z2,z3,z4,z5,z6,z7,z8,z9,z10⟩:=elev hxa
  go_region_law
   (refine step_cn (by rfl) _ _ (by rfl) (v:=.slice ca 0 cc) (C:=x.cs) (by rfl) (by rw [HLe.out];exact own_belG HC.out (bt (bel_dn (Below.refl _ _) _) (bel1 _ _))) (by simp;omega) (by rw [HLe.out];omega) _ (by rfl) ((i:Int),N - x.n) (new_1 _ _) ?_;intro g6 k6 w6 hown hgr;have hb6:=(hgr.block vb (by have:=(Array.getElem?_eq_some_iff.1 HBx.out).1;simp;try omega) (fun q=>own_neG HC.out hvB q.symm)).trans (hkN' HBx.out (bt (bel_dn (Below.refl _ _) _) (bel1 _ _)));have g6f:w6.frozen? ⟨vb,6,none⟩=false:=(by simp [World.frozen?,hb6]);obtain ⟨y0,y1,y2,y3,y4,y5,y6,y7,y8,y9,y10⟩:=elev hb6)
  all_goals
   have hch:Chg (fun b=>b=vb∨(Value.slice ca 0 cc).ownBlock=some b) w w6:=(Chg.of_below (bt (bel_dn (Below.refl _ _) (k1+k2+1)) (bel1 _ _))).trans (Chg.of_grown (S:=fun b=>(Value.slice ca 0 cc).ownBlock=some b) hgr (fun x e=>e)) (fun x e=>Or.inl (Or.inr e))
   have HQ:=hid_of (cnt_fin (N:=N) (C:=x.cs++[((i:Int),N - x.n)]) (w:=w) hb6 hown hvB hch)
   have f7b:(w6.setCell ⟨vb,6,none⟩ (.slice (some ⟨g6,0,none⟩) (x.cs.length+1) k6)).frozen? ⟨vb,7,none⟩=false:=by simp [World.frozen?,Lib.heap_setCell_same (i:=6) hb6 _]
   have e7b:(w6.setCell ⟨vb,6,none⟩ (.slice (some ⟨g6,0,none⟩) (x.cs.length+1) k6)).cell? ⟨vb,7,none⟩=some (.int .u64 (x.n:Int)):=by simp [World.cell?,Lib.heap_setCell_same (i:=6) hb6 _]
   clear hch hown hgr hb6 hxa HIx HHi HYes HC HBx HCa hbk y0 y1 y2 y3 y4 y5 y6 y7 y8 y9 y10 z0 z1 z2 z3 z4 z5 z6 z7 z8 z9 z10 c0 c1 c2 c3 c4 c5 c6 c7 c8 c9 c10
   go_wp2_with fail
   go_end0
   exact ⟨rfl,.slice (some ⟨g6,0,none⟩) (x.cs.length+1) k6,HQ.out.1,(by have q:=HQ.out.2.1;rw [HLe.out] at q ⊢;exact q),HQ.out.2.2⟩
 | succ m =>
  obtain rfl:=HCa.out (by omega)
  have hml:m < x.cs.length:=by rw [HLe.out];omega
  have hlc:x.cs[m].1 < (i:Int):=HLa.out _ (by rw [(HFG.out m hml).2,HLe.out,Nat.add_sub_cancel,List.getElem?_eq_getElem hml])
  have hcell:w.cell? ⟨cg,m*2,none⟩=some (.int .i64 x.cs[m].1):=by
   rw [HC.out.cellAt (m*2) (by omega)]
   exact (HFG.out m hml).1
  clear HLa HFG
  generalize x.cs[m].1=lc at *
  go_upto_region 5 with (go_at_call 29;refine Calls.mono (HYes.out _) ?_;rintro e w3 ⟨rfl,rfl⟩)
  have hxa:=hkN' HBx.out (bt (bel_dn (Below.refl _ _) (k1+k2+1)) (bel1 (w.drewN (k1+k2+1)) (.cells #[.int .i64 (i:Int),.int .u64 ((N - x.n:Nat):Int)] 79)))
  obtain ⟨z0,z1,z2,z3,z4,z5,z6,z7,z8,z9,z10⟩:=elev hxa
  go_region_law
   (refine step_cn (by rfl) _ _ (by rfl) (v:=.slice (some ⟨cg,0,none⟩) (m+1) cc) (C:=x.cs) (by rfl) (by rw [HLe.out];exact own_belG HC.out (bt (bel_dn (Below.refl _ _) _) (bel1 _ _))) (by simp;omega) (by rw [HLe.out];omega) _ (by rfl) ((i:Int),N - x.n) (new_1 _ _) ?_;intro g6 k6 w6 hown hgr;have hb6:=(hgr.block vb (by have:=(Array.getElem?_eq_some_iff.1 HBx.out).1;simp;try omega) (fun q=>own_neG HC.out hvB q.symm)).trans (hkN' HBx.out (bt (bel_dn (Below.refl _ _) _) (bel1 _ _)));have g6f:w6.frozen? ⟨vb,6,none⟩=false:=(by simp [World.frozen?,hb6]);obtain ⟨y0,y1,y2,y3,y4,y5,y6,y7,y8,y9,y10⟩:=elev hb6)
  all_goals
   have hch:Chg (fun b=>b=vb∨(Value.slice (some ⟨cg,0,none⟩) (m+1) cc).ownBlock=some b) w w6:=(Chg.of_below (bt (bel_dn (Below.refl _ _) (k1+k2+1)) (bel1 _ _))).trans (Chg.of_grown (S:=fun b=>(Value.slice (some ⟨cg,0,none⟩) (m+1) cc).ownBlock=some b) hgr (fun x e=>e)) (fun x e=>Or.inl (Or.inr e))
   have HQ:=hid_of (cnt_fin (N:=N) (C:=x.cs++[((i:Int),N - x.n)]) (w:=w) hb6 hown hvB hch)
   have f7b:(w6.setCell ⟨vb,6,none⟩ (.slice (some ⟨g6,0,none⟩) (x.cs.length+1) k6)).frozen? ⟨vb,7,none⟩=false:=by simp [World.frozen?,Lib.heap_setCell_same (i:=6) hb6 _]
   have e7b:(w6.setCell ⟨vb,6,none⟩ (.slice (some ⟨g6,0,none⟩) (x.cs.length+1) k6)).cell? ⟨vb,7,none⟩=some (.int .u64 (x.n:Int)):=by simp [World.cell?,Lib.heap_setCell_same (i:=6) hb6 _]
   clear hch hown hgr hb6 hxa HIx HHi HYes HC HBx HCa hbk y0 y1 y2 y3 y4 y5 y6 y7 y8 y9 y10 z0 z1 z2 z3 z4 z5 z6 z7 z8 z9 z10 c0 c1 c2 c3 c4 c5 c6 c7 c8 c9 c10
   go_wp2_with fail
   go_end0
   exact ⟨rfl,.slice (some ⟨g6,0,none⟩) (x.cs.length+1) k6,HQ.out.1,(by have q:=HQ.out.2.1;rw [HLe.out] at q ⊢;exact q),HQ.out.2.2⟩
structure Hs (u:World) (rb:Nat) (w:World) (vb:Nat) (x:Vl) (lv cv:Value) (T:List UInt8) (n:Nat) (W:World):Prop where
 rd:Rd u rb w T n W
 lt:rb < w.heap.size
 d:W.heap[w.heap.size]? =some (.cells (d4 x.d.kind x.d.name x.d.help lv) 41)
 r:W.heap[w.heap.size+1]? =some (.cells z11 45)
 v:W.heap[vb]? =some (.cells (vc x lv cv) 45)
 hv:w.heap.size+1 < vb
 ol:La.OwnL w.heap.size lv x.d.labels W
 oc:W.ownsRow (vb+1) 79 2 cv x.cs.length (fl x.cs)
theorem Hs.keep {u:World} {rb:Nat} {w W W':World} {vb:Nat} {x:Vl} {lv cv:Value} {T:List UInt8} {n:Nat} (h:Hs u rb w vb x lv cv T n W) (hb:Below W.heap.size W W'):Hs u rb w vb x lv cv T n W' :=
 ⟨h.rd.below hb,h.lt,hkN' h.d hb,hkN' h.r hb,hkN' h.v hb,h.hv,own_belL h.ol hb,own_belG h.oc hb⟩
theorem Hs.called {u:World} {rb:Nat} {w W W':World} {vb:Nat} {x:Vl} {lv cv:Value} {T T':List UInt8} {n n':Nat} (h:Hs u rb w vb x lv cv T n W) (k:Rd u rb W T' n' W'):Hs u rb w vb x lv cv T' n' W':=by
 have lt:=h.lt
 have hv:=h.hv
 refine ⟨h.rd.then k,lt,k.ch.at_ h.d (by omega),k.ch.at_ h.r (by omega),k.ch.at_ h.v (by omega),hv,?_,?_⟩
 ·exact k.ch.row h.ol (fun y e c=>by have:=own_far h.ol (b:=rb) lt;exact this (by rw [e,c]))
 ·exact k.ch.row h.oc (fun y e c=>by have:=own_neG h.oc (b:=rb) (by omega);exact this (by rw [e,c]))
theorem types_lc:(85:TypeId)≠79:=by decide
theorem types_lv:(85:TypeId)≠45:=by decide
theorem Hs.count {u:World} {rb:Nat} {w W W':World} {vb N:Nat} {x:Vl} {lv cv cv':Value} {T:List UInt8} {n:Nat} {c:Cn} (h:Hs u rb w vb x lv cv T n W)
  (hv:W'.heap[vb]? =some (.cells (vc { x with cs:=x.cs++[c],n:=N } lv cv') 45)) (ho:W'.ownsRow (vb+1) 79 2 cv' (x.cs.length+1) (fl (x.cs++[c]))) (hc:Chg (fun b=>b=vb∨cv.ownBlock=some b) W W'):Hs u rb w vb { x with cs:=x.cs++[c],n:=N } lv cv' T n W':=by
 have lt:=h.lt
 have hvb:=h.hv
 have hne:∀ b,b < vb→¬ (b=vb∨cv.ownBlock=some b):=fun b hb k=>by
  rcases k with k | k
  ·omega
  ·exact own_neG h.oc (b:=b) (by omega) k
 refine ⟨⟨hc.at_ h.rd.at_ (hne rb (by omega)),?_,h.rd.lo,?_⟩,lt,hc.at_ h.d (hne _ (by omega)),hc.at_ h.r (hne _ (by omega)),hv,hvb,?_,by simpa using ho⟩
 ·refine h.rd.ch.trans hc (fun b k=>Or.inr ?_)
  rcases k with k | k
  ·omega
  ·rcases own_atG h.oc with q | ⟨g,q,q1,_⟩
   ·rw [q] at k;cases k
   ·rw [q] at k;cases k;omega
 ·refine h.rd.st.trans (hc.below (by have:=h.rd.st.size;omega) (fun b k=>?_))
  have hlo:=h.rd.lo
  rcases k with k | k
  ·omega
  ·rcases own_atG h.oc with q | ⟨g,q,q1,_⟩
   ·rw [q] at k;cases k
   ·rw [q] at k;cases k;omega
 ·refine hc.row h.ol (fun b e k=>?_)
  rcases k with k | k
  ·exact own_notype h.ol h.v types_lv (by rw [e,k])
  ·rcases own_apart h.ol h.oc types_lc with q | q
   ·rw [q] at e;cases e
   ·exact q (by rw [e,k])
def MoL (T x y z T':List UInt8):Prop:=(cut10 T).2.2=true∧morR [108,101] (cut10 T).1=some (x,y,z)∧(cut10 T).2.1=T'
def LpR (p:Nat) (A:List UInt8):Nat→List Cn→List UInt8→List UInt8→List UInt8→List UInt8→Prop
 | a,[],y,z,T,T'=>y=[43,73,110,102]∧whoR z=some a∧T=T'
 | a,c::C,y,z,T,T'=>y≠[43,73,110,102]∧(∃ i:Nat,c.1=(i:Int)∧i < (64 - p)*2 ^ p∧whoR y=some (hiV p i))∧whoR z=some (a+c.2)∧0 < c.2∧a+c.2 < 18446744073709551616∧∃ y' z' T1,MoL T A y' z' T1∧LpR p A (a+c.2) C y' z' T1 T'
def mzR (rb:Nat) (W:World):Nat:=match W.cell? ⟨rb,0,none⟩ with
 | some (.string s)=>s.size
 | _=>0
theorem Rd.mz {u:World} {rb:Nat} {w W:World} {T:List UInt8} {n:Nat} (h:Rd u rb w T n W):mzR rb W=T.length:=by
 unfold mzR
 rw [h.cells.1]
 simp [ByteArray.size]
theorem cut_lt {T:List UInt8} (h:(cut10 T).2.2=true):(cut10 T).2.1.length < T.length:=by
 unfold cut10 Lib.cut at *
 by_cases hi:0≤Lib.index T [10]
 ·rw [if_pos hi]
  simp only [List.length_drop,List.length_cons,List.length_nil]
  have hne:T≠[]:=fun e=>by
   rw [e] at hi
   revert hi
   decide
  have:=List.length_pos_iff.2 hne
  omega
 ·rw [if_neg hi] at h
  cases h
end Go.Proofs.YtfkbjdgbpenflaaGreatDoor.Sc
