/- ALARM: AlarmRings, walked. Own work of the verifier. -/
import Derived.Test.YtlgkfeeclgcgbaaGreatDoorZBR
namespace Go.Proofs.YtlgkfeeclgcgbaaGreatDoor.Al
open Go.RowKit Go.Sort Me
def LS (b g dg cap:Nat) (M:List Mo) (long keep:Int) (w W:World):Prop:=(∃ gc A st si e0 rest,FY b g gc A long keep st si e0 (lastM M) rest w W∧Mch M long keep st si)∧OkM M∧DoneR g dg cap M W
theorem LS.below {b g dg cap:Nat} {M:List Mo} {long keep:Int} {w W W1:World} (h:LS b g dg cap M long keep w W) (hb:Below W.heap.size W W1):LS b g dg cap M long keep w W1:=by
 obtain ⟨⟨gc,A,st,si,e0,rest,h1,h2⟩,h3,h4⟩:=h
 exact ⟨⟨gc,A,st,si,e0,rest,h1.below hb,h2⟩,h3,h4.below hb⟩
theorem LS.bel {b g dg cap:Nat} {M:List Mo} {long keep:Int} {w W:World} (h:LS b g dg cap M long keep w W):Below w.heap.size w W:=by
 obtain ⟨⟨gc,A,st,si,e0,rest,h1,h2⟩,-⟩:=h
 exact h1.bel
theorem infoM:(Tryz.prog.info? 32).map (fun i=>(i.zero,i.size,i.bytes))=some (some (.agg #[.int .i64 0,.bool false]),2,16):=by kernel_rfl
theorem four_app {W:World} {g:Nat} {x y z u:Value} {rs:Array Value} {t:TypeId} (h:W.heap[g]? =some (.cells (#[x,y,z,u]++rs) t)):W.cell? ⟨g,0,none⟩=some x∧W.cell? ⟨g,1,none⟩=some y∧W.cell? ⟨g,2,none⟩=some z∧W.cell? ⟨g,3,none⟩=some u:=by
 refine ⟨?_,?_,?_,?_⟩ <;> (simp [World.cell?,h];exact app_at rfl)
def MB (mb:Nat) (tm:Int) (ho:Bool) (W:World):Prop:=W.heap[mb]? =some (.cells #[.int .i64 tm,.bool ho] 32 (0,0))
theorem MB.below {mb:Nat} {tm:Int} {ho:Bool} {W W1:World} (h:MB mb tm ho W) (hb:Below W.heap.size W W1):MB mb tm ho W1:=Ru.h_at h hb
theorem MB.cells {mb:Nat} {tm:Int} {ho:Bool} {W:World} (h:MB mb tm ho W):W.cell? ⟨mb,0,none⟩=some (.int .i64 tm)∧W.cell? ⟨mb,1,none⟩=some (.bool ho):=bd_cells h
def LT (b g dg cap:Nat) (M:List Mo) (tm:Int) (ho:Bool) (long keep:Int) (z:Int) (w W:World):Prop:=(∃ gc A s9 rest,FY b g gc A long keep z s9 0 tm rest w W∧Mch (M++[(tm,ho)]) long keep z s9)∧OkM (M++[(tm,ho)])∧DoneR g dg cap M W
theorem LT.below {b g dg cap:Nat} {M:List Mo} {tm:Int} {ho:Bool} {long keep z:Int} {w W W1:World} (h:LT b g dg cap M tm ho long keep z w W) (hb:Below W.heap.size W W1):LT b g dg cap M tm ho long keep z w W1:=by
 obtain ⟨⟨gc,A,s9,rest,h1,h2⟩,h3,h4⟩:=h
 exact ⟨⟨gc,A,s9,rest,h1.below hb,h2⟩,h3,h4.below hb⟩
theorem LS.step {b g dg cap:Nat} {M:List Mo} {long keep:Int} {w W:World} (h:LS b g dg cap M long keep w W) (hk:Ru.Kd w) (l0:0≤long) (l1:long≤4611686018427387904) (k0:0≤keep) (k1:keep≤4611686018427387904) (ho:Bool) (tm:Int) (h0:-4611686018427387904≤tm) (h1:tm≤4611686018427387904) (hl:lastM M < tm) (hn:M.length+1 < 4611686018427387904) (mb:Nat) (hm:MB mb tm ho W) (hdm:dg < mb) (r:Nat) (u tv sv:Value) (hg:Ri.Rg r r 1 [tm] [(oneS (Ri.nOf ho),u)] 0 tv sv W) :
  ∃ z,Calls Tryz.prog 7 #[.pointer (some ⟨b,0,none⟩),.pointer (some ⟨r,0,none⟩),.int .i64 tm] W fun e w'=>(∃ ca cn cc,e=.returned (.tuple #[.slice ca cn cc,.int .i64 0]))∧Hid (LT b g dg cap M tm ho long keep z w w'∧MB mb tm ho w'):=by
 obtain ⟨⟨gc,A,st,si,e0,rest,hF,hM⟩,hOk,hD⟩:=h
 refine ⟨nxF st ho long keep si tm,(hF.step hk hM.st ho tm h0 h1 hl l0 l1 k0 k1 r u tv sv hg (nxF st ho long keep si tm) (if nxF st ho long keep si tm=st then si else tm) rfl rfl).mono ?_⟩
 intro e w' hq
 have hok':=okM_snoc (h:=ho) hOk h0 h1 hl hn
 have hbg:=hF.ltg
 have hdo:=hD.open_
 refine ⟨hq.1,⟨⟨gc,A,_,rest,hF.stepped hq,mch_step hM hok'.rise l0 k0 rfl rfl⟩,hok',hD.keep ?_⟩,?_⟩
 ·exact hq.2.2.2.2.2.2.2 dg hdo.2.2 (by omega) (by omega)
 ·exact (hq.2.2.2.2.2.2.2 mb (Array.getElem?_eq_some_iff.1 hm).1 (by omega) (by omega)).trans hm
def PT (b g dg cap mb:Nat) (M:List Mo) (tm:Int) (ho:Bool) (long keep:Int) (z:Int) (w W:World):Prop:=(∃ gc A s9 rest,FY b g gc A long keep z s9 0 tm rest w W∧Mch (M++[(tm,ho)]) long keep z s9)∧OkM (M++[(tm,ho)])∧DoneR g dg cap (M++[(tm,ho)]) W∧MB mb tm ho W
theorem PT.below {b g dg cap mb:Nat} {M:List Mo} {tm:Int} {ho:Bool} {long keep z:Int} {w W W1:World} (h:PT b g dg cap mb M tm ho long keep z w W) (hb:Below W.heap.size W W1):PT b g dg cap mb M tm ho long keep z w W1:=by
 obtain ⟨⟨gc,A,s9,rest,h1,h2⟩,h3,h4,h5⟩:=h
 exact ⟨⟨gc,A,s9,rest,h1.below hb,h2⟩,h3,h4.below hb,h5.below hb⟩
theorem LT.app {b g dg cap mb:Nat} {M:List Mo} {tm:Int} {ho:Bool} {long keep z:Int} {w W W1:World} {v:Value} (h:LT b g dg cap M tm ho long keep z w W) (hm:MB mb tm ho W) (hdm:dg < mb) (ho':W1.ownsRow (g+1) 32 2 v (M.length+1) (flM M++[.int .i64 tm,.bool ho])) (hg:W.grownBy W1 (some dg)) :
  ∃ dg' cap',v=.slice (some ⟨dg',0,none⟩) (M.length+1) cap'∧PT b g dg' cap' mb M tm ho long keep z w W1:=by
 obtain ⟨⟨gc,A,s9,rest,h1,h2⟩,h3,h4⟩:=h
 have hgd:=h4.open_.1
 have hgl:=h1.lt
 have hF:FY b g gc A long keep z s9 0 tm rest w W1:=h1.upto hg.os hg.tape hg.output hg.size (fun j hj=>hg.block j (by omega) (fun e=>by injection e with e;omega))
 have hM:MB mb tm ho W1:=(hg.block mb (Array.getElem?_eq_some_iff.1 hm).1 (fun e=>by injection e with e;omega)).trans hm
 obtain ⟨o1,o2⟩:=ho'
 rcases o2 with ⟨-,o2⟩ | ⟨dg',cap',cur,rfl,o3⟩
 ·cases o2
 ·refine ⟨dg',cap',rfl,⟨gc,A,s9,rest,hF,h2⟩,h3,?_,hM⟩
  unfold DoneR
  rw [len1,flM_snoc]
  exact ⟨o1,Or.inr ⟨dg',cap',cur,rfl,o3⟩⟩
theorem PT.ls {b g dg cap mb:Nat} {M:List Mo} {tm:Int} {ho:Bool} {long keep z:Int} {w W:World} (h:PT b g dg cap mb M tm ho long keep z w W):LS b g dg cap (M++[(tm,ho)]) long keep w W:=by
 obtain ⟨⟨gc,A,s9,rest,h1,h2⟩,h3,h4,h5⟩:=h
 exact ⟨⟨gc,A,z,s9,0,rest,by rw [lastM_snoc];exact h1,h2⟩,h3,h4⟩
theorem PT.status {b g dg cap mb:Nat} {M:List Mo} {tm:Int} {ho:Bool} {long keep z:Int} {w W:World} (h:PT b g dg cap mb M tm ho long keep z w W):∃ s9,Calls Tryz.prog 8 #[.pointer (some ⟨b,0,none⟩)] W fun e w'=>SsQ z s9 0 W e w':=by
 obtain ⟨⟨gc,A,s9,rest,h1,h2⟩,h3,h4,h5⟩:=h
 exact ⟨s9,status_al b g gc A.k A.x A.rn A.la A.ln A.lc A.wi A.n A.d A.aa A.an A.ac long keep z s9 0 tm rest W h1.bd h1.al⟩
theorem PT.tell {b g dg cap mb:Nat} {M:List Mo} {tm:Int} {ho:Bool} {long keep z:Int} {w W:World} (h:PT b g dg cap mb M tm ho long keep z w W):∃ on:Bool,((z=1∧ho=false∧on=false)∨(z=2∧ho=true∧on=false)∨(z=3∧ho=true∧on=true)∨(z=4∧ho=false∧on=true)) ∧
  ∀ W1,PT b g dg cap mb M tm ho long keep z w W1→Calls Tryz.prog 9 #[.slice (some ⟨dg,0,none⟩) (M.length+1) cap,.int .u64 long,.int .u64 keep] W1 fun e w'=>e=.returned (.bool on)∧Below W1.heap.size W1 w':=by
 obtain ⟨⟨gc,A,s9,rest,h1,h2⟩,h3,h4,h5⟩:=h
 have hr:∀ W1,PT b g dg cap mb M tm ho long keep z w W1→Calls Tryz.prog 9 #[.slice (some ⟨dg,0,none⟩) (M.length+1) cap,.int .u64 long,.int .u64 keep] W1 fun e w'=>(∃ bz:Bool,e=.returned (.bool bz)∧(bz=true ↔ ringP (M++[(tm,ho)]) long keep))∧Below W1.heap.size W1 w':=fun W1 hp=>by
  have:=rings_any (M++[(tm,ho)]) dg cap long keep h3 W1 hp.2.2.1.open_.2.1
  rw [len1] at this
  refine this.mono ?_
  rintro e w' ⟨he,q,rfl⟩
  exact ⟨he,La.bel_drewN (Below.refl _ _) _⟩
 have hy:ringP (M++[(tm,ho)]) long keep→∀ W1,PT b g dg cap mb M tm ho long keep z w W1→Calls Tryz.prog 9 #[.slice (some ⟨dg,0,none⟩) (M.length+1) cap,.int .u64 long,.int .u64 keep] W1 fun e w'=>e=.returned (.bool true)∧Below W1.heap.size W1 w':=fun hR W1 hp=>(hr W1 hp).mono (by
  rintro e w' ⟨⟨bz,rfl,hb⟩,hbl⟩
  rw [hb.2 hR]
  exact ⟨rfl,hbl⟩)
 have hn:¬ ringP (M++[(tm,ho)]) long keep→∀ W1,PT b g dg cap mb M tm ho long keep z w W1→Calls Tryz.prog 9 #[.slice (some ⟨dg,0,none⟩) (M.length+1) cap,.int .u64 long,.int .u64 keep] W1 fun e w'=>e=.returned (.bool false)∧Below W1.heap.size W1 w':=fun hR W1 hp=>(hr W1 hp).mono (by
  rintro e w' ⟨⟨bz,rfl,hb⟩,hbl⟩
  cases bz
  ·exact ⟨rfl,hbl⟩
  ·exact absurd (hb.1 rfl) hR)
 rcases h2.tell with ⟨a,c,d⟩ | ⟨a,c,d⟩ | ⟨a,c,d⟩ | ⟨a,c,d⟩
 ·exact ⟨false,Or.inl ⟨a,c,rfl⟩,hn d⟩
 ·exact ⟨false,Or.inr (Or.inl ⟨a,c,rfl⟩),hn d⟩
 ·exact ⟨true,Or.inr (Or.inr (Or.inl ⟨a,c,rfl⟩)),hy d⟩
 ·exact ⟨true,Or.inr (Or.inr (Or.inr ⟨a,c,rfl⟩)),hy d⟩
end Go.Proofs.YtlgkfeeclgcgbaaGreatDoor.Al
/- ALARM: AlarmRings, walked. Own work of the verifier. -/
set_option maxRecDepth 100000
set_option maxHeartbeats 4000000
namespace Go.Proofs.YtlgkfeeclgcgbaaGreatDoor.Al
open Go.RowKit Go.Sort Me
theorem alrings_in (L0 : List Mo) (ao : Option Addr) (lb lo lc : Nat) (long keep : Int) (w : World) (he : Ru.Env w) (hA : L0 ≠ [] → ao = some ⟨lb, lo, none⟩)
    (hR : ∀ i (hi : i < L0.length), w.cell? ⟨lb, lo + i * 2, none⟩ = some (.int .i64 L0[i].1) ∧ w.cell? ⟨lb, lo + i * 2 + 1, none⟩ = some (.bool L0[i].2)) (hn : L0.length ≤ 8796093021952)
    (l0 : 0 ≤ long) (l1 : long ≤ 4611686018427387904) (k0 : 0 ≤ keep) (k1 : keep ≤ 4611686018427387904) :
    Calls Tryz.prog 3 #[.slice ao L0.length lc, .int .i64 long, .int .i64 keep] w fun e w' => e = .returned (.bool true) ∧ Below w.heap.size w w' := by
  obtain ⟨i0, hi0, hz0, hz1, hz2⟩ := info_parts infoM
  have HI := hid_of (⟨hi0, hz0, hz1, hz2⟩ : _ ∧ _ ∧ _ ∧ _)
  have d1 : decide (long < 0) = false := decide_eq_false (by omega)
  have d2 : decide (long > 4611686018427387904) = false := decide_eq_false (by omega)
  have d3 : decide (keep < 0) = false := decide_eq_false (by omega)
  have d4 : decide (keep > 4611686018427387904) = false := decide_eq_false (by omega)
  have u1 : IntKind.u64.wrap long = long := by rw [IntKind.wrap_u64]; omega
  have u2 : IntKind.u64.wrap keep = keep := by rw [IntKind.wrap_u64]; omega
  obtain ⟨W2, hW2⟩ : ∃ W2, W2 = w.alloc (.cells (spG #[40, 116, 111, 116, 97, 108, 40, 99, 44, 32, 52, 54, 49, 49, 54, 56, 54, 48, 49, 56, 52, 50, 55, 51, 56, 55, 57, 48, 52, 41, 32, 62, 32, 52, 41] long keep) 29) := ⟨_, rfl⟩
  have hb2 : Below w.heap.size w W2 := by rw [hW2]; exact bel1 _ _
  have hp2 : W2.heap[w.heap.size]? = some (.cells (spG #[40, 116, 111, 116, 97, 108, 40, 99, 44, 32, 52, 54, 49, 49, 54, 56, 54, 48, 49, 56, 52, 50, 55, 51, 56, 55, 57, 48, 52, 41, 32, 62, 32, 52, 41] long keep) 29) := by rw [hW2]; exact new_1 _ _
  have HNw : Hid (Calls Tryz.prog 5 #[.slice (some ⟨w.heap.size, 0, none⟩) 1 1] W2 fun e w' => NewG (Ru.rlW Ru.W62) long keep W2 e w') := new_g _ (Ru.rlW Ru.W62) Ru.parseW Ru.typeW _ long keep l0 l1 k0 k1 W2 (he.below hb2) hp2
  have HFx : Hid (∀ W, Below w.heap.size w W → Calls Tryz.prog 4 #[] W fun e w' => e = .returned (.bool true) ∧ Below W.heap.size W w') := fun W hb => fixed_al W (he.below hb)
  have HRw : Hid (∀ i (hi : i < L0.length) W, Below w.heap.size w W → W.cell? ⟨lb, lo + i * 2, none⟩ = some (.int .i64 L0[i].1) ∧ W.cell? ⟨lb, lo + i * 2 + 1, none⟩ = some (.bool L0[i].2)) := fun i hi W hb => ⟨cellB hb (hR i hi).1, cellB hb (hR i hi).2⟩
  have HA := hid_of hA
  have HKd := hid_of he.kd
  have HLK := hid_of (⟨l0, l1, k0, k1⟩ : 0 ≤ long ∧ long ≤ 4611686018427387904 ∧ 0 ≤ keep ∧ keep ≤ 4611686018427387904)
  have HB2 := hid_of hb2
  have HW2 := hid_of hW2
  have HS2 : Hid (w.heap.size < W2.heap.size) := by show _ < _; rw [hW2]; simp
  clear hi0 hz0 hz1 hz2 hW2 hb2 hp2 he hR hA l0 l1 k0 k1
  go_enter Tryz.func3, Tryz.ntmps3
  go_upto_region 3 with fail
  go_wp2_with fail
  rw [← HW2.out]
  refine Calls.mono HNw.out ?_
  rintro e w3 hq
  obtain ⟨⟨b, g, gc, k, x, rn, la, ln, lcc, wi, n, d, aa, an, ac, rfl, hbd, hlb, ⟨rest, hbg, hal⟩, Wr, r1, r2, r3, r4⟩, hb3⟩ := hq
  have hFY : FY b g gc ⟨k, x, rn, la, ln, lcc, wi, n, d, aa, an, ac⟩ long keep 1 0 0 (lastM []) rest w w3 := ⟨hbd, hal, ⟨Wr, r1, r3, r4, fun j hj hl => r2.block j hl (by omega)⟩, bt HB2.out hb3, by have := HB2.out.size; omega⟩
  have HLS : Hid (LS b g w3.heap.size 0 [] long keep w (w3.alloc (.cells #[] 32))) := ⟨⟨gc, _, 1, 0, 0, rest, hFY.below (bel1 _ _), mch_nil long keep⟩, okM_nil, DoneR.empty g w3 hFY.lt⟩
  clear hbd hlb hbg hal r1 r2 r3 r4 hb3 HNw HW2 HB2 HS2 hFY d1 d2 d3 d4
  go_wp2_with fail
  go_loopw [10, 11, 12, 13, 14, 15, 16, 17, 18] (fun dv a _ _ _ _ _ _ _ wr => ∃ (i dg cap N : Nat) (M : List Mo), i ≤ L0.length ∧ N = M.length ∧ dv = .slice (some ⟨dg, 0, none⟩) N cap ∧ a = .int .i64 (i : Int) ∧ Hid (N ≤ i ∧ LS b g dg cap M long keep w wr)) (fun _ a _ _ _ _ _ _ _ _ => L0.length - (intOf a).toNat)
  case atStart => exact ⟨0, _, 0, 0, [], Nat.zero_le _, rfl, rfl, rfl, Nat.zero_le _, HLS.out⟩
  case round =>
    clear HLS
    obtain ⟨i, dg, cap, N, M, hi, hN, rfl, rfl, H⟩ := hrel
    have HN := hid_of hN
    clear hN
    by_cases hlt : i < L0.length
    · have hlt' : (i : Int) < (L0.length : Int) := by omega
      obtain rfl := HA.out (fun e => by rw [e] at hlt; simp at hlt)
      obtain ⟨c0, c1⟩ := HRw.out i hlt wr H.out.2.bel
      have v1 : IntKind.i64.wrap ((i : Int) + 1) = ((i + 1 : Nat) : Int) := by rw [IntKind.wrap_i64]; omega
      obtain ⟨tm, htm⟩ : ∃ tm, tm = L0[i].1 := ⟨_, rfl⟩
      obtain ⟨ho, hho⟩ : ∃ ho, ho = L0[i].2 := ⟨_, rfl⟩
      rw [← htm] at c0
      rw [← hho] at c1
      obtain ⟨W1, hW1⟩ : ∃ W1, W1 = wr.alloc (.cells #[.int .i64 tm, .bool ho] 32) := ⟨_, rfl⟩
      have hb1 : Below wr.heap.size wr W1 := by rw [hW1]; exact bel1 _ _
      have hm1 : MB wr.heap.size tm ho W1 := by rw [hW1]; exact new_1 _ _
      obtain ⟨m0, m1⟩ := hm1.cells
      have HS1 := hid_of (⟨H.out.2.below hb1, hm1, H.out.2.2.2.open_.2.2, H.out.1⟩ : LS b g dg cap M long keep w W1 ∧ MB wr.heap.size tm ho W1 ∧ dg < wr.heap.size ∧ N ≤ i)
      have HT3 : Hid (∀ W, Calls Tryz.prog 6 #[.int .i64 tm, .int .u64 3] W fun e w' => ∃ r u tv sv, e = .returned (.pointer (some ⟨r, 0, none⟩)) ∧ Hid (W.heap.size ≤ r ∧ Ri.Rg r r 1 [tm] [(oneS 3, u)] 0 tv sv w' ∧ Below W.heap.size W w')) := fun W => Ri.told_al tm 3 (by decide) W
      have HT5 : Hid (∀ W, Calls Tryz.prog 6 #[.int .i64 tm, .int .u64 5] W fun e w' => ∃ r u tv sv, e = .returned (.pointer (some ⟨r, 0, none⟩)) ∧ Hid (W.heap.size ≤ r ∧ Ri.Rg r r 1 [tm] [(oneS 5, u)] 0 tv sv w' ∧ Below W.heap.size W w')) := fun W => Ri.told_al tm 5 (by decide) W
      have HW1 := hid_of hW1
      clear hW1 hb1 hm1 htm hho H HFx HRw HA
      go_upto_region 11 with fail
      rw [← HW1.out]
      clear HW1 c0 c1
      generalize wr.heap.size = mb at *
      go_wp2_with fail
      refine Calls.mono (HT3.out _) ?_
      rintro e w2 ⟨r3, u3, tv3, sv3, rfl, ht3⟩
      have HS2 := hid_of (⟨HS1.out.1.below ht3.out.2.2, HS1.out.2.1.below ht3.out.2.2, HS1.out.2.2⟩ : LS b g dg cap M long keep w w2 ∧ MB mb tm ho w2 ∧ dg < mb ∧ N ≤ i)
      clear HS1 m0 m1
      obtain ⟨m0, m1⟩ := HS2.out.2.1.cells
      clear HT3
      rcases Bool.eq_false_or_eq_true ho with hh | hh
      case' inl =>
        rw [hh] at m1
        go_wp2_with fail
        refine Calls.mono (HT5.out _) ?_
        rintro e w3 ⟨r5, u5, tv5, sv5, rfl, ht5⟩
        have HS := hid_of (⟨HS2.out.1.below ht5.out.2.2, HS2.out.2.1.below ht5.out.2.2, HS2.out.2.2⟩ : LS b g dg cap M long keep w w3 ∧ MB mb tm ho w3 ∧ dg < mb ∧ N ≤ i)
        have HG : Hid (Ri.Rg r5 r5 1 [tm] [(oneS (Ri.nOf ho), u5)] 0 tv5 sv5 w3) := by rw [hh]; exact ht5.out.2.1
        have HH := hid_of hh
        clear HS2 m0 m1 HT5 ht3 ht5 hh
        obtain ⟨m0, m1⟩ := HS.out.2.1.cells
        go_upto_region 16 with fail
      case' inr =>
        rw [hh] at m1
        have HS : Hid (LS b g dg cap M long keep w w2 ∧ MB mb tm ho w2 ∧ dg < mb ∧ N ≤ i) := HS2.out
        have HG : Hid (Ri.Rg r3 r3 1 [tm] [(oneS (Ri.nOf ho), u3)] 0 tv3 sv3 w2) := by rw [hh]; exact ht3.out.2.1
        have HH := hid_of hh
        go_upto_region 16 with fail
        clear HS2 m0 m1 HT5 ht3 hh
        obtain ⟨m0, m1⟩ := HS.out.2.1.cells
      all_goals
        by_cases hr : tm < -4611686018427387904 ∨ 4611686018427387904 < tm
        · have HSt : Hid (∀ rp W, Calls Tryz.prog 7 #[.pointer (some ⟨b, 0, none⟩), .pointer rp, .int .i64 tm] W fun e w' => e = .returned (.tuple #[.slice none 0 0, .int .i64 2]) ∧ w' = W) := fun rp W => step_range b rp tm hr W
          by_cases g1 : tm < -4611686018427387904
          · have e1 : decide (tm < -4611686018427387904) = true := decide_eq_true g1
            clear hr g1 HG
            go_wp2_with fail
            refine Calls.mono (HSt.out _ _) ?_
            rintro e w4 ⟨rfl, rfl⟩
            clear HSt
            go_upto_region 18 with fail
            go_quiet (fail)
            go_wp2_with fail
            exact ⟨⟨i + 1, dg, cap, N, M, hlt, HN.out, rfl, rfl, Nat.le_succ_of_le HS.out.2.2.2, HS.out.1.below (La.bel_drewN (Below.refl _ _) _)⟩, by simp [intOf]; omega⟩
          · have e1 : decide (tm < -4611686018427387904) = false := decide_eq_false g1
            have e2 : decide (tm > 4611686018427387904) = true := decide_eq_true (by omega)
            clear hr g1 HG
            go_wp2_with fail
            refine Calls.mono (HSt.out _ _) ?_
            rintro e w4 ⟨rfl, rfl⟩
            clear HSt
            go_upto_region 18 with fail
            go_quiet (fail)
            go_wp2_with fail
            exact ⟨⟨i + 1, dg, cap, N, M, hlt, HN.out, rfl, rfl, Nat.le_succ_of_le HS.out.2.2.2, HS.out.1.below (La.bel_drewN (Below.refl _ _) _)⟩, by simp [intOf]; omega⟩
        · have q0 : -4611686018427387904 ≤ tm := by omega
          have q1 : tm ≤ 4611686018427387904 := by omega
          have e1 : decide (tm < -4611686018427387904) = false := decide_eq_false (by omega)
          have e2 : decide (tm > 4611686018427387904) = false := decide_eq_false (by omega)
          clear hr
          by_cases hl : lastM M < tm
          · obtain ⟨z, hz⟩ := HS.out.1.step HKd.out HLK.out.1 HLK.out.2.1 HLK.out.2.2.1 HLK.out.2.2.2 ho tm q0 q1 hl (by have := HN.out; have := HS.out.2.2.2; omega) mb HS.out.2.1 HS.out.2.2.1 _ _ _ _ HG.out
            have HSt := hid_of hz
            have HDm := hid_of HS.out.2.2
            have HL4 := hid_of hl
            clear hz hl q0 q1 HG
            go_wp2_with fail
            refine Calls.mono HSt.out ?_
            rintro e w4 ⟨⟨ca, cn, cc, rfl⟩, h4⟩
            clear HSt HS m0 m1
            obtain ⟨m0, m1⟩ := h4.out.2.cells
            go_upto_region 18 with fail
            go_cut [106] from 84 to 106 (fun x W => x = .bool false ∧ Hid (LT b g dg cap M tm ho long keep z w W ∧ MB mb tm ho W))
            case first =>
              rcases Nat.eq_zero_or_pos N with h0 | h0
              · have e3 : decide (0 < N) = false := decide_eq_false (by omega)
                clear h0
                go_quiet (fail)
                go_wp2_with fail
                go_meet
                exact ⟨rfl, h4.out.1.below (La.bel_drewN (Below.refl _ _) _), h4.out.2.below (La.bel_drewN (Below.refl _ _) _)⟩
              · obtain ⟨k, hk⟩ : ∃ k, N = k + 1 := ⟨N - 1, by omega⟩
                have hkc := (h4.out.1.2.2.open_.2.1 k (by have := HN.out; omega)).1
                have e3 : decide (0 < N) = true := decide_eq_true h0
                have e4 : IntKind.i64.wrap ((N : Int) - 1) = (k : Int) := by rw [IntKind.wrap_i64]; have := HDm.out.2; omega
                have e5 : (k : Int) < (N : Int) := by omega
                have e6 : ¬ tm ≤ mAt M k := by
                  have hl := HL4.out
                  unfold lastM at hl
                  rw [if_neg (fun e => by have := HN.out; rw [e] at this; rw [this] at h0; cases h0), ← HN.out, hk, Nat.add_sub_cancel] at hl
                  omega
                clear hk
                go_quiet (fail)
                go_wp2_with fail
                go_meet
                exact ⟨rfl, h4.out.1.below (La.bel_drewN (Below.refl _ _) _), h4.out.2.below (La.bel_drewN (Below.refl _ _) _)⟩
            case rest =>
            obtain ⟨rfl, H5⟩ := hcut
            clear h4 m0 m1 HL4
            obtain ⟨m0, m1⟩ := H5.out.2.cells
            have hb5 := bel1 wc (.cells #[.int .i64 tm, .bool ho] 32)
            have HDN : Hid ((wc.alloc (.cells #[.int .i64 tm, .bool ho] 32)).ownsRow (g + 1) 32 2 (.slice (some ⟨dg, 0, none⟩) N cap) N (flM M)) := by rw [HN.out]; exact H5.out.1.2.2.below hb5
            have HSz : Hid (g + 1 ≤ (wc.alloc (.cells #[.int .i64 tm, .bool ho] 32)).heap.size) := by
              have h1 := H5.out.1.2.2.open_
              have h2 := hb5.size
              show _ ≤ _
              omega
            have HNv := hid_of (new_1 wc (.cells #[.int .i64 tm, .bool ho] 32))
            have HP : Hid (∀ v W1, W1.ownsRow (g + 1) 32 2 v (N + 1) (flM M ++ [.int .i64 tm, .bool ho]) → (wc.alloc (.cells #[.int .i64 tm, .bool ho] 32)).grownBy W1 (some dg) → ∃ dg' cap', v = .slice (some ⟨dg', 0, none⟩) (N + 1) cap' ∧ PT b g dg' cap' mb M tm ho long keep z w W1) := by
              rw [HN.out]
              exact fun v W1 h1 h2 => (H5.out.1.below hb5).app (H5.out.2.below hb5) HDm.out.1 h1 h2
            clear hb5 H5
            obtain ⟨hi0, hz0, hz1, hz2⟩ := HI.out
            go_upto_region 22 with (at_builtin; refine wpList_append_own _ rfl _ _ 22 rfl (g + 1) 32 i0 _ 2 16 Tryz.underlying22 hi0 hz0 hz1 hz2 rfl (by decide) _ N (flM M) rfl HDN.out ⟨wc.heap.size, 0, none⟩ 1 1 [.int .i64 tm, .bool ho] rfl rfl (World.news_of_block HNv.out) (fun u hu => by simp at hu; rcases hu with rfl | rfl <;> rfl) (by have := HDm.out.2; unfold maxLen; omega) (by have := HDm.out.2; omega) HSz.out ?_; intro v6 w6 hown6 hg6 hq6; clear hq6; obtain ⟨dg', cap', rfl, hp6⟩ := HP.out v6 w6 hown6 hg6; have H6 := hid_of hp6; clear hown6 hg6 hp6)
            obtain ⟨s9, hst⟩ := H6.out.status
            have HSs := hid_of hst
            clear HP HDN HSz HNv m0 m1 hst hi0 hz0 hz1 hz2
            go_wp2_with fail
            refine Calls.mono HSs.out ?_
            rintro e w7 ⟨⟨c, q, rs, rfl, hc⟩, hb7⟩
            have H7 := hid_of (H6.out.below hb7)
            obtain ⟨on, hon, hrg⟩ := H7.out.tell
            have HRg : Hid (Calls Tryz.prog 9 #[.slice (some ⟨dg', 0, none⟩) (N + 1) cap', .int .u64 long, .int .u64 keep] w7 fun e w' => e = .returned (.bool on) ∧ Below w7.heap.size w7 w') := by rw [HN.out]; exact hrg w7 H7.out
            have HC7 := hid_of hc
            clear HSs H6 hb7 hrg hc
            obtain ⟨s0, s1, s2, s3⟩ := four_app HC7.out
            obtain ⟨m0, m1⟩ := H7.out.2.2.2.cells
            rcases hon with ⟨hz9, hh9, rfl⟩ | ⟨hz9, hh9, rfl⟩ | ⟨hz9, hh9, rfl⟩ | ⟨hz9, hh9, rfl⟩
            all_goals first
              | exact absurd (HH.out.symm.trans hh9) (by decide)
              | (rw [hz9] at s1
                 rw [hh9] at m1
                 have HZ9 := hid_of hz9
                 have HH9 := hid_of hh9
                 clear hz9 hh9
                 go_wp2_with fail
                 refine Calls.mono HRg.out ?_
                 rintro e w8 ⟨rfl, hb8⟩
                 have H8 := hid_of (H7.out.below hb8)
                 obtain ⟨p0, p1, p2, p3⟩ := four_app (Ru.h_at HC7.out hb8)
                 obtain ⟨n0, n1⟩ := H8.out.2.2.2.cells
                 rw [HZ9.out] at p1
                 rw [HH9.out] at n1
                 clear s0 s1 s2 s3 m0 m1 HRg
                 go_wp2_with fail
                 exact ⟨⟨i + 1, dg', cap', N + 1, M ++ [(tm, ho)], hlt, by rw [HN.out]; exact (len1 _ _).symm, rfl, rfl, Nat.succ_le_succ HDm.out.2, H8.out.ls⟩, by simp [intOf]; omega⟩)
          · have HSt : Hid (∀ rp W, LS b g dg cap M long keep w W → Calls Tryz.prog 7 #[.pointer (some ⟨b, 0, none⟩), .pointer rp, .int .i64 tm] W fun e w' => e = .returned (.tuple #[.slice none 0 0, .int .i64 15]) ∧ w' = W) := fun rp W h => by
              obtain ⟨⟨gc, A, st, si, e0, rest, hF, -⟩, -⟩ := h
              exact step_order b _ rp (lastM M) tm q0 q1 (by omega) W hF.bd
            have hne : M ≠ [] := fun e => by rw [e] at hl; exact hl (by show -4611686018427387905 < tm; omega)
            obtain ⟨k, hk⟩ : ∃ k, N = k + 1 := ⟨N - 1, by have := List.length_pos_iff.2 hne; have := HN.out; omega⟩
            have hkc := (HS.out.1.2.2.open_.2.1 k (by have := HN.out; omega)).1
            have e3 : decide (0 < N) = true := decide_eq_true (by omega)
            have e3' : 0 < N := by omega
            have e4 : IntKind.i64.wrap ((N : Int) - 1) = (k : Int) := by rw [IntKind.wrap_i64]; have := HS.out.2.2.2; omega
            have e5 : (k : Int) < (N : Int) := by omega
            have e6 : tm ≤ mAt M k := by
              unfold lastM at hl
              rw [if_neg hne, ← HN.out, hk, Nat.add_sub_cancel] at hl
              omega
            clear hl hne HG q0 q1 hk
            go_wp2_with fail
            refine Calls.mono (HSt.out _ _ HS.out.1) ?_
            rintro e w4 ⟨rfl, rfl⟩
            clear HSt
            go_upto_region 18 with fail
            go_quiet (fail)
            go_wp2_with fail
            exact ⟨⟨i + 1, dg, cap, N, M, hlt, HN.out, rfl, rfl, Nat.le_succ_of_le HS.out.2.2.2, HS.out.1.below (La.bel_drewN (Below.refl _ _) _)⟩, by simp [intOf]; omega⟩
    · go_wp2_with fail
      refine Calls.mono (HFx.out _ H.out.2.bel) ?_
      rintro e w9 ⟨rfl, hb9⟩
      have HB9 := hid_of (H.out.2.bel.trans (hb9.mono H.out.2.bel.size))
      go_wp2_with fail
      go_ret
      exact ⟨rfl, HB9.out⟩
theorem alrings_walk (L0:List Mo) (ao:Option Addr) (lb lo lc:Nat) (long keep:Int) (w:World) (he:Ru.Env w) (hA:L0≠[]→ao=some ⟨lb,lo,none⟩)
  (hR:∀ i (hi:i < L0.length),w.cell? ⟨lb,lo+i*2,none⟩=some (.int .i64 L0[i].1)∧w.cell? ⟨lb,lo+i*2+1,none⟩=some (.bool L0[i].2)) (hn:L0.length≤8796093021952) :
  Calls Tryz.prog 3 #[.slice ao L0.length lc,.int .i64 long,.int .i64 keep] w fun e w'=>e=.returned (.bool true)∧Below w.heap.size w w':=by
 by_cases hq:(0≤long∧long≤4611686018427387904)∧0≤keep∧keep≤4611686018427387904
 ·exact alrings_in L0 ao lb lo lc long keep w he hA hR hn hq.1.1 hq.1.2 hq.2.1 hq.2.2
 ·have HF:Hid (Calls Tryz.prog 4 #[] w fun e w'=>e=.returned (.bool true)∧Below w.heap.size w w'):=fixed_al w he
  clear he hA hR hn
  by_cases a1:long < 0
  ·have d1:decide (long < 0)=true:=decide_eq_true a1
   clear a1 hq
   go_enter Tryz.func3,Tryz.ntmps3
   go_wp2_with fail
   refine Calls.mono HF.out ?_
   rintro e w1 ⟨rfl,hb1⟩
   have HB1:=hid_of hb1
   clear hb1
   go_wp2_with fail
   go_ret
   exact ⟨rfl,HB1.out⟩
  ·have d1:decide (long < 0)=false:=decide_eq_false a1
   by_cases a2:long > 4611686018427387904
   ·have d2:decide (long > 4611686018427387904)=true:=decide_eq_true a2
    clear a1 a2 hq
    go_enter Tryz.func3,Tryz.ntmps3
    go_wp2_with fail
    refine Calls.mono HF.out ?_
    rintro e w1 ⟨rfl,hb1⟩
    have HB1:=hid_of hb1
    clear hb1
    go_wp2_with fail
    go_ret
    exact ⟨rfl,HB1.out⟩
   ·have d2:decide (long > 4611686018427387904)=false:=decide_eq_false a2
    by_cases a3:keep < 0
    ·have d3:decide (keep < 0)=true:=decide_eq_true a3
     clear a1 a2 a3 hq
     go_enter Tryz.func3,Tryz.ntmps3
     go_wp2_with fail
     refine Calls.mono HF.out ?_
     rintro e w1 ⟨rfl,hb1⟩
     have HB1:=hid_of hb1
     clear hb1
     go_wp2_with fail
     go_ret
     exact ⟨rfl,HB1.out⟩
    ·have d3:decide (keep < 0)=false:=decide_eq_false a3
     have d4:decide (keep > 4611686018427387904)=true:=decide_eq_true (by omega)
     clear a1 a2 a3 hq
     go_enter Tryz.func3,Tryz.ntmps3
     go_wp2_with fail
     refine Calls.mono HF.out ?_
     rintro e w1 ⟨rfl,hb1⟩
     have HB1:=hid_of hb1
     clear hb1
     go_wp2_with fail
     go_ret
     exact ⟨rfl,HB1.out⟩
end Go.Proofs.YtlgkfeeclgcgbaaGreatDoor.Al
