/- RULES: THE DOCUMENT'S fields (printed by gen_zb.py). Own work of the verifier. -/
import Derived.Test.YtibahfopmjiffaaGreatDoorSBI
set_option maxRecDepth 100000
set_option maxHeartbeats 4000000
namespace Go.Proofs.YtibahfopmjiffaaGreatDoor.Ru
open Go.RowKit Me
theorem dfields_pos (k:Int) (x:Nat) (nm:List UInt8) (la:Option Addr) (ln lc:Nat) (wi n d:Int) (aa:Option Addr) (al ac:Nat) (g:0 < ln) (hx:x < 18446744073709551616) (w:World) :
    Calls Tryz.prog 43 #[rx k x nm (.slice la ln lc) wi n d (.slice aa al ac)] w fun e w'=>e=.returned (.bool (dFld k x nm ln wi n d al))∧Below w.heap.size w w':=by
  obtain ⟨W0,hW0⟩:∃ W0,W0=w.alloc (.cells (rc k x nm (.slice la ln lc) wi n d (.slice aa al ac)) 26):=⟨_,rfl⟩
  have hb0:Below w.heap.size w W0:=by rw [hW0];exact bel1 w _
  have hn0:W0.heap[w.heap.size]? =some (.cells (rc k x nm (.slice la ln lc) wi n d (.slice aa al ac)) 26):=by rw [hW0];exact new_1 w _
  have HA:Hid (∀ W,Calls Tryz.prog 62 #[.int .i64 k] W fun e w'=>e=.returned (.int .i64 (dAr k))∧w'=W):=fun W=>dargs_any k W
  have HS:Hid (∀ W,Calls Tryz.prog 38 #[.int .i64 k] W fun e w'=>e=.returned (.bool (dSer k))∧w'=W):=fun W=>dser_any k W
  have HC:Hid (∀ W,Calls Tryz.prog 63 #[.float .f64 x,.float .f64 0] W fun e w'=>e=.returned (.int .i64 (Re.sg (Re.rk x) (Re.rk 0)))∧w'=W):=fun W=>Re.refcmp_any x 0 hx (by decide) W
  have HF:Hid (∀ W,Calls Tryz.prog 64 #[.float .f64 x] W fun e w'=>e=.returned (.bool (Re.finF x))∧w'=W):=fun W=>Re.dfin_any x hx W
  have HW0:=hid_of hW0
  have Hb0:=hid_of hb0
  have HN0:=hid_of hn0
  have sF:=store_f
  obtain ⟨R,hR⟩:∃ R,R=dFld k x nm ln wi n d al:=⟨_,rfl⟩
  rw [← hR]
  unfold dFld at hR
  obtain ⟨e1,h1⟩:∃ b,(k != 1)=b:=⟨_,rfl⟩
  obtain ⟨e8,h8⟩:∃ b,(k != 8)=b:=⟨_,rfl⟩
  obtain ⟨s,hs⟩:∃ b,dSer k=b:=⟨_,rfl⟩
  have hk1:(k == 1)=!e1:=by rw [← h1];simp [bne]
  have c1:e1=false→e8=true∧s=false:=by
    intro q
    rw [q] at h1
    have:k=1:=by simpa using h1
    subst this
    exact ⟨h8.symm.trans rfl,hs.symm.trans rfl⟩
  have c8:e8=false→e1=true∧s=true:=by
    intro q
    rw [q] at h8
    have:k=8:=by simpa using h8
    subst this
    exact ⟨h1.symm.trans rfl,hs.symm.trans rfl⟩
  obtain ⟨N,hN⟩:∃ b,nmd nm ln wi=b:=⟨_,rfl⟩
  have HN:=hid_of hN
  rw [hs] at HS
  rw [hs,hN,h8,h1,hk1] at hR
  obtain ⟨a,ha⟩:∃ a,dAr k=a:=⟨_,rfl⟩
  rw [ha] at HA hR
  obtain ⟨eA,hA⟩:∃ b,((al:Int) != a)=b:=⟨_,rfl⟩
  obtain ⟨en,hen⟩:∃ b,(n != 0)=b:=⟨_,rfl⟩
  obtain ⟨ed,hed⟩:∃ b,(d != 0)=b:=⟨_,rfl⟩
  generalize Re.sg (Re.rk x) (Re.rk 0)=cz at *
  obtain ⟨ec,hec⟩:∃ b,(cz != 0)=b:=⟨_,rfl⟩
  generalize Re.finF x=f at *
  rw [hA,hen,hed,hec] at hR
  have HR:=hid_of hR
  clear hR hx hb0 hn0 hW0 hs hN ha
  go_enter Tryz.func43,Tryz.ntmps43
  go_upto_region 1 with fail
  rw [← HW0.out]
  clear HW0
  obtain ⟨y0,y1,y2,y3,y4,y5,y6,y7⟩:=eight HN0.out
  go_cut [3] from 4 to 17 (fun y W=>y=.bool N∧W=W0)
  case first =>
    clear HA HS HC HF HR h1 h8 hk1 c1 c8 hA hen hed hec y0 y1 y5 y6 y7
    obtain ⟨b1,q1⟩:∃ b,(nm != [])=b:=⟨_,rfl⟩
    have q1':(nm == [])=!b1:=by rw [← q1];simp [bne]
    obtain ⟨b3,q3⟩:∃ b,(wi != 0)=b:=⟨_,rfl⟩
    have HE:Hid (N=(b1 || decide (0 < ln) || b3)):=by show _=_;rw [← HN.out];unfold nmd;rw [q1,q3]
    clear HN
    have g':(0:Int) < (ln:Int):=by omega
    rw [decide_eq_true g] at HE
    clear g
    cases b1 <;> cases b3
    all_goals
      simp only [Bool.not_true,Bool.not_false] at q1'
      go_wp2_with fail
      go_meet
      exact ⟨by rw [HE.out];rfl,rfl⟩
  case rest =>
  obtain ⟨rfl,hwc⟩:=hcut
  rename_i wc
  obtain rfl:W0=wc:=hwc.symm
  clear HN
  go_upto_region 2 with fail
  cases e1
  · obtain ⟨rfl,rfl⟩:=c1 rfl
    clear c1 c8
    rw [Bool.not_false] at hk1
    cases eA
    ·
      cases N
      ·
        cases en
        ·
          cases ed
          ·
            go_quiet ((first
              | (go_at_call 62;exact Calls.quiet_of_same (HA.out _))
              | (go_at_call 38;exact Calls.quiet_of_same (HS.out _))))
            go_upto_region 4 with fail
            cases f
            ·
              have HE:Hid (R=false):=by
                show _=_
                rw [HR.out]
                simp [*]
              clear HR
              as_aux_lemma =>
                go_wp2_with (first
                    | (go_at_call 62;with_reducible refine (HA.out _).mono ?_;rintro e w1 ⟨rfl,rfl⟩)
                    | (go_at_call 38;with_reducible refine (HS.out _).mono ?_;rintro e w1 ⟨rfl,rfl⟩)
                    | (go_at_call 63;with_reducible refine (HC.out _).mono ?_;rintro e w1 ⟨rfl,rfl⟩)
                    | (go_at_call 64;with_reducible refine (HF.out _).mono ?_;rintro e w1 ⟨rfl,rfl⟩)
                    | fail)
                go_ret
                first
                  | exact ⟨congrArg (fun b:Bool=>Ending.returned (.bool b)) HE.out.symm,by first | exact La.bel_drewN Hb0.out _ | exact La.bel_drewN (La.bel_drewN Hb0.out _) _ | exact bD (La.bel_drewN Hb0.out _) | exact bD (bD (La.bel_drewN Hb0.out _))⟩
                  | exact ⟨congrArg (fun b:Bool=>Ending.returned (.bool b)) ((decide_eq_true g5).trans HE.out.symm),by first | exact La.bel_drewN Hb0.out _ | exact La.bel_drewN (La.bel_drewN Hb0.out _) _ | exact bD (La.bel_drewN Hb0.out _) | exact bD (bD (La.bel_drewN Hb0.out _))⟩
                  | exact ⟨congrArg (fun b:Bool=>Ending.returned (.bool b)) ((decide_eq_false (by omega)).trans HE.out.symm),by first | exact La.bel_drewN Hb0.out _ | exact La.bel_drewN (La.bel_drewN Hb0.out _) _ | exact bD (La.bel_drewN Hb0.out _) | exact bD (bD (La.bel_drewN Hb0.out _))⟩
            ·
              have HE:Hid (R=true):=by
                show _=_
                rw [HR.out]
                simp [*]
              clear HR
              as_aux_lemma =>
                go_wp2_with (first
                    | (go_at_call 62;with_reducible refine (HA.out _).mono ?_;rintro e w1 ⟨rfl,rfl⟩)
                    | (go_at_call 38;with_reducible refine (HS.out _).mono ?_;rintro e w1 ⟨rfl,rfl⟩)
                    | (go_at_call 63;with_reducible refine (HC.out _).mono ?_;rintro e w1 ⟨rfl,rfl⟩)
                    | (go_at_call 64;with_reducible refine (HF.out _).mono ?_;rintro e w1 ⟨rfl,rfl⟩)
                    | fail)
                go_ret
                first
                  | exact ⟨congrArg (fun b:Bool=>Ending.returned (.bool b)) HE.out.symm,by first | exact La.bel_drewN Hb0.out _ | exact La.bel_drewN (La.bel_drewN Hb0.out _) _ | exact bD (La.bel_drewN Hb0.out _) | exact bD (bD (La.bel_drewN Hb0.out _))⟩
                  | exact ⟨congrArg (fun b:Bool=>Ending.returned (.bool b)) ((decide_eq_true g5).trans HE.out.symm),by first | exact La.bel_drewN Hb0.out _ | exact La.bel_drewN (La.bel_drewN Hb0.out _) _ | exact bD (La.bel_drewN Hb0.out _) | exact bD (bD (La.bel_drewN Hb0.out _))⟩
                  | exact ⟨congrArg (fun b:Bool=>Ending.returned (.bool b)) ((decide_eq_false (by omega)).trans HE.out.symm),by first | exact La.bel_drewN Hb0.out _ | exact La.bel_drewN (La.bel_drewN Hb0.out _) _ | exact bD (La.bel_drewN Hb0.out _) | exact bD (bD (La.bel_drewN Hb0.out _))⟩
          ·
            have HE:Hid (R=false):=by
              show _=_
              rw [HR.out]
              simp [*]
            clear HR
            as_aux_lemma =>
              go_quiet ((first
                | (go_at_call 62;exact Calls.quiet_of_same (HA.out _))
                | (go_at_call 38;exact Calls.quiet_of_same (HS.out _))))
              go_wp2_with fail
              go_ret
              first
                | exact ⟨congrArg (fun b:Bool=>Ending.returned (.bool b)) HE.out.symm,by first | exact La.bel_drewN Hb0.out _ | exact La.bel_drewN (La.bel_drewN Hb0.out _) _ | exact bD (La.bel_drewN Hb0.out _) | exact bD (bD (La.bel_drewN Hb0.out _))⟩
                | exact ⟨congrArg (fun b:Bool=>Ending.returned (.bool b)) ((decide_eq_true g5).trans HE.out.symm),by first | exact La.bel_drewN Hb0.out _ | exact La.bel_drewN (La.bel_drewN Hb0.out _) _ | exact bD (La.bel_drewN Hb0.out _) | exact bD (bD (La.bel_drewN Hb0.out _))⟩
                | exact ⟨congrArg (fun b:Bool=>Ending.returned (.bool b)) ((decide_eq_false (by omega)).trans HE.out.symm),by first | exact La.bel_drewN Hb0.out _ | exact La.bel_drewN (La.bel_drewN Hb0.out _) _ | exact bD (La.bel_drewN Hb0.out _) | exact bD (bD (La.bel_drewN Hb0.out _))⟩
        ·
          have HE:Hid (R=false):=by
            show _=_
            rw [HR.out]
            simp [*]
          clear HR
          as_aux_lemma =>
            go_quiet ((first
              | (go_at_call 62;exact Calls.quiet_of_same (HA.out _))
              | (go_at_call 38;exact Calls.quiet_of_same (HS.out _))))
            go_wp2_with fail
            go_ret
            first
              | exact ⟨congrArg (fun b:Bool=>Ending.returned (.bool b)) HE.out.symm,by first | exact La.bel_drewN Hb0.out _ | exact La.bel_drewN (La.bel_drewN Hb0.out _) _ | exact bD (La.bel_drewN Hb0.out _) | exact bD (bD (La.bel_drewN Hb0.out _))⟩
              | exact ⟨congrArg (fun b:Bool=>Ending.returned (.bool b)) ((decide_eq_true g5).trans HE.out.symm),by first | exact La.bel_drewN Hb0.out _ | exact La.bel_drewN (La.bel_drewN Hb0.out _) _ | exact bD (La.bel_drewN Hb0.out _) | exact bD (bD (La.bel_drewN Hb0.out _))⟩
              | exact ⟨congrArg (fun b:Bool=>Ending.returned (.bool b)) ((decide_eq_false (by omega)).trans HE.out.symm),by first | exact La.bel_drewN Hb0.out _ | exact La.bel_drewN (La.bel_drewN Hb0.out _) _ | exact bD (La.bel_drewN Hb0.out _) | exact bD (bD (La.bel_drewN Hb0.out _))⟩
      ·
        have HE:Hid (R=false):=by
          show _=_
          rw [HR.out]
          simp [*]
        clear HR
        as_aux_lemma =>
          go_quiet ((first
            | (go_at_call 62;exact Calls.quiet_of_same (HA.out _))
            | (go_at_call 38;exact Calls.quiet_of_same (HS.out _))))
          go_wp2_with fail
          go_ret
          first
            | exact ⟨congrArg (fun b:Bool=>Ending.returned (.bool b)) HE.out.symm,by first | exact La.bel_drewN Hb0.out _ | exact La.bel_drewN (La.bel_drewN Hb0.out _) _ | exact bD (La.bel_drewN Hb0.out _) | exact bD (bD (La.bel_drewN Hb0.out _))⟩
            | exact ⟨congrArg (fun b:Bool=>Ending.returned (.bool b)) ((decide_eq_true g5).trans HE.out.symm),by first | exact La.bel_drewN Hb0.out _ | exact La.bel_drewN (La.bel_drewN Hb0.out _) _ | exact bD (La.bel_drewN Hb0.out _) | exact bD (bD (La.bel_drewN Hb0.out _))⟩
            | exact ⟨congrArg (fun b:Bool=>Ending.returned (.bool b)) ((decide_eq_false (by omega)).trans HE.out.symm),by first | exact La.bel_drewN Hb0.out _ | exact La.bel_drewN (La.bel_drewN Hb0.out _) _ | exact bD (La.bel_drewN Hb0.out _) | exact bD (bD (La.bel_drewN Hb0.out _))⟩
    ·
      have HE:Hid (R=false):=by
        show _=_
        rw [HR.out]
        simp [*]
      clear HR
      as_aux_lemma =>
        go_quiet ((first
          | (go_at_call 62;exact Calls.quiet_of_same (HA.out _))
          | (go_at_call 38;exact Calls.quiet_of_same (HS.out _))))
        go_wp2_with fail
        go_ret
        first
          | exact ⟨congrArg (fun b:Bool=>Ending.returned (.bool b)) HE.out.symm,by first | exact La.bel_drewN Hb0.out _ | exact La.bel_drewN (La.bel_drewN Hb0.out _) _ | exact bD (La.bel_drewN Hb0.out _) | exact bD (bD (La.bel_drewN Hb0.out _))⟩
          | exact ⟨congrArg (fun b:Bool=>Ending.returned (.bool b)) ((decide_eq_true g5).trans HE.out.symm),by first | exact La.bel_drewN Hb0.out _ | exact La.bel_drewN (La.bel_drewN Hb0.out _) _ | exact bD (La.bel_drewN Hb0.out _) | exact bD (bD (La.bel_drewN Hb0.out _))⟩
          | exact ⟨congrArg (fun b:Bool=>Ending.returned (.bool b)) ((decide_eq_false (by omega)).trans HE.out.symm),by first | exact La.bel_drewN Hb0.out _ | exact La.bel_drewN (La.bel_drewN Hb0.out _) _ | exact bD (La.bel_drewN Hb0.out _) | exact bD (bD (La.bel_drewN Hb0.out _))⟩
  ·
    clear c1
    rw [Bool.not_true] at hk1
    cases e8
    · obtain ⟨-,rfl⟩:=c8 rfl
      clear c8
      cases eA
      ·
        go_quiet ((first
          | (go_at_call 62;exact Calls.quiet_of_same (HA.out _))
          | (go_at_call 38;exact Calls.quiet_of_same (HS.out _))))
        go_upto_region 4 with fail
        cases ec
        ·
          by_cases g1:wi < 1
          ·
            have HE:Hid (R=false):=by
              show _=_
              rw [HR.out]
              simp [*]
            clear HR
            as_aux_lemma =>
              go_wp2_with (first
                  | (go_at_call 62;with_reducible refine (HA.out _).mono ?_;rintro e w1 ⟨rfl,rfl⟩)
                  | (go_at_call 38;with_reducible refine (HS.out _).mono ?_;rintro e w1 ⟨rfl,rfl⟩)
                  | (go_at_call 63;with_reducible refine (HC.out _).mono ?_;rintro e w1 ⟨rfl,rfl⟩)
                  | (go_at_call 64;with_reducible refine (HF.out _).mono ?_;rintro e w1 ⟨rfl,rfl⟩)
                  | fail)
              go_ret
              first
                | exact ⟨congrArg (fun b:Bool=>Ending.returned (.bool b)) HE.out.symm,by first | exact La.bel_drewN Hb0.out _ | exact La.bel_drewN (La.bel_drewN Hb0.out _) _ | exact bD (La.bel_drewN Hb0.out _) | exact bD (bD (La.bel_drewN Hb0.out _))⟩
                | exact ⟨congrArg (fun b:Bool=>Ending.returned (.bool b)) ((decide_eq_true g5).trans HE.out.symm),by first | exact La.bel_drewN Hb0.out _ | exact La.bel_drewN (La.bel_drewN Hb0.out _) _ | exact bD (La.bel_drewN Hb0.out _) | exact bD (bD (La.bel_drewN Hb0.out _))⟩
                | exact ⟨congrArg (fun b:Bool=>Ending.returned (.bool b)) ((decide_eq_false (by omega)).trans HE.out.symm),by first | exact La.bel_drewN Hb0.out _ | exact La.bel_drewN (La.bel_drewN Hb0.out _) _ | exact bD (La.bel_drewN Hb0.out _) | exact bD (bD (La.bel_drewN Hb0.out _))⟩
          ·
            by_cases g2:4611686018427387904 < wi
            ·
              have HE:Hid (R=false):=by
                show _=_
                rw [HR.out]
                simp [*]
              clear HR
              as_aux_lemma =>
                go_wp2_with (first
                    | (go_at_call 62;with_reducible refine (HA.out _).mono ?_;rintro e w1 ⟨rfl,rfl⟩)
                    | (go_at_call 38;with_reducible refine (HS.out _).mono ?_;rintro e w1 ⟨rfl,rfl⟩)
                    | (go_at_call 63;with_reducible refine (HC.out _).mono ?_;rintro e w1 ⟨rfl,rfl⟩)
                    | (go_at_call 64;with_reducible refine (HF.out _).mono ?_;rintro e w1 ⟨rfl,rfl⟩)
                    | fail)
                go_ret
                first
                  | exact ⟨congrArg (fun b:Bool=>Ending.returned (.bool b)) HE.out.symm,by first | exact La.bel_drewN Hb0.out _ | exact La.bel_drewN (La.bel_drewN Hb0.out _) _ | exact bD (La.bel_drewN Hb0.out _) | exact bD (bD (La.bel_drewN Hb0.out _))⟩
                  | exact ⟨congrArg (fun b:Bool=>Ending.returned (.bool b)) ((decide_eq_true g5).trans HE.out.symm),by first | exact La.bel_drewN Hb0.out _ | exact La.bel_drewN (La.bel_drewN Hb0.out _) _ | exact bD (La.bel_drewN Hb0.out _) | exact bD (bD (La.bel_drewN Hb0.out _))⟩
                  | exact ⟨congrArg (fun b:Bool=>Ending.returned (.bool b)) ((decide_eq_false (by omega)).trans HE.out.symm),by first | exact La.bel_drewN Hb0.out _ | exact La.bel_drewN (La.bel_drewN Hb0.out _) _ | exact bD (La.bel_drewN Hb0.out _) | exact bD (bD (La.bel_drewN Hb0.out _))⟩
            ·
              by_cases g3:1≤d
              ·
                by_cases g4:0≤n
                ·
                  by_cases g5:n≤d
                  ·
                    have HE:Hid (R=true):=by
                      show _=_
                      rw [HR.out]
                      simp [*]
                    clear HR
                    as_aux_lemma =>
                      go_wp2_with (first
                          | (go_at_call 62;with_reducible refine (HA.out _).mono ?_;rintro e w1 ⟨rfl,rfl⟩)
                          | (go_at_call 38;with_reducible refine (HS.out _).mono ?_;rintro e w1 ⟨rfl,rfl⟩)
                          | (go_at_call 63;with_reducible refine (HC.out _).mono ?_;rintro e w1 ⟨rfl,rfl⟩)
                          | (go_at_call 64;with_reducible refine (HF.out _).mono ?_;rintro e w1 ⟨rfl,rfl⟩)
                          | fail)
                      go_ret
                      first
                        | exact ⟨congrArg (fun b:Bool=>Ending.returned (.bool b)) HE.out.symm,by first | exact La.bel_drewN Hb0.out _ | exact La.bel_drewN (La.bel_drewN Hb0.out _) _ | exact bD (La.bel_drewN Hb0.out _) | exact bD (bD (La.bel_drewN Hb0.out _))⟩
                        | exact ⟨congrArg (fun b:Bool=>Ending.returned (.bool b)) ((decide_eq_true g5).trans HE.out.symm),by first | exact La.bel_drewN Hb0.out _ | exact La.bel_drewN (La.bel_drewN Hb0.out _) _ | exact bD (La.bel_drewN Hb0.out _) | exact bD (bD (La.bel_drewN Hb0.out _))⟩
                        | exact ⟨congrArg (fun b:Bool=>Ending.returned (.bool b)) ((decide_eq_false (by omega)).trans HE.out.symm),by first | exact La.bel_drewN Hb0.out _ | exact La.bel_drewN (La.bel_drewN Hb0.out _) _ | exact bD (La.bel_drewN Hb0.out _) | exact bD (bD (La.bel_drewN Hb0.out _))⟩
                  ·
                    have HE:Hid (R=false):=by
                      show _=_
                      rw [HR.out]
                      simp [*]
                    clear HR
                    as_aux_lemma =>
                      go_wp2_with (first
                          | (go_at_call 62;with_reducible refine (HA.out _).mono ?_;rintro e w1 ⟨rfl,rfl⟩)
                          | (go_at_call 38;with_reducible refine (HS.out _).mono ?_;rintro e w1 ⟨rfl,rfl⟩)
                          | (go_at_call 63;with_reducible refine (HC.out _).mono ?_;rintro e w1 ⟨rfl,rfl⟩)
                          | (go_at_call 64;with_reducible refine (HF.out _).mono ?_;rintro e w1 ⟨rfl,rfl⟩)
                          | fail)
                      go_ret
                      first
                        | exact ⟨congrArg (fun b:Bool=>Ending.returned (.bool b)) HE.out.symm,by first | exact La.bel_drewN Hb0.out _ | exact La.bel_drewN (La.bel_drewN Hb0.out _) _ | exact bD (La.bel_drewN Hb0.out _) | exact bD (bD (La.bel_drewN Hb0.out _))⟩
                        | exact ⟨congrArg (fun b:Bool=>Ending.returned (.bool b)) ((decide_eq_true g5).trans HE.out.symm),by first | exact La.bel_drewN Hb0.out _ | exact La.bel_drewN (La.bel_drewN Hb0.out _) _ | exact bD (La.bel_drewN Hb0.out _) | exact bD (bD (La.bel_drewN Hb0.out _))⟩
                        | exact ⟨congrArg (fun b:Bool=>Ending.returned (.bool b)) ((decide_eq_false (by omega)).trans HE.out.symm),by first | exact La.bel_drewN Hb0.out _ | exact La.bel_drewN (La.bel_drewN Hb0.out _) _ | exact bD (La.bel_drewN Hb0.out _) | exact bD (bD (La.bel_drewN Hb0.out _))⟩
                ·
                  have HE:Hid (R=false):=by
                    show _=_
                    rw [HR.out]
                    simp [*]
                  clear HR
                  as_aux_lemma =>
                    go_wp2_with (first
                        | (go_at_call 62;with_reducible refine (HA.out _).mono ?_;rintro e w1 ⟨rfl,rfl⟩)
                        | (go_at_call 38;with_reducible refine (HS.out _).mono ?_;rintro e w1 ⟨rfl,rfl⟩)
                        | (go_at_call 63;with_reducible refine (HC.out _).mono ?_;rintro e w1 ⟨rfl,rfl⟩)
                        | (go_at_call 64;with_reducible refine (HF.out _).mono ?_;rintro e w1 ⟨rfl,rfl⟩)
                        | fail)
                    go_ret
                    first
                      | exact ⟨congrArg (fun b:Bool=>Ending.returned (.bool b)) HE.out.symm,by first | exact La.bel_drewN Hb0.out _ | exact La.bel_drewN (La.bel_drewN Hb0.out _) _ | exact bD (La.bel_drewN Hb0.out _) | exact bD (bD (La.bel_drewN Hb0.out _))⟩
                      | exact ⟨congrArg (fun b:Bool=>Ending.returned (.bool b)) ((decide_eq_true g5).trans HE.out.symm),by first | exact La.bel_drewN Hb0.out _ | exact La.bel_drewN (La.bel_drewN Hb0.out _) _ | exact bD (La.bel_drewN Hb0.out _) | exact bD (bD (La.bel_drewN Hb0.out _))⟩
                      | exact ⟨congrArg (fun b:Bool=>Ending.returned (.bool b)) ((decide_eq_false (by omega)).trans HE.out.symm),by first | exact La.bel_drewN Hb0.out _ | exact La.bel_drewN (La.bel_drewN Hb0.out _) _ | exact bD (La.bel_drewN Hb0.out _) | exact bD (bD (La.bel_drewN Hb0.out _))⟩
              ·
                have HE:Hid (R=false):=by
                  show _=_
                  rw [HR.out]
                  simp [*]
                clear HR
                as_aux_lemma =>
                  go_wp2_with (first
                      | (go_at_call 62;with_reducible refine (HA.out _).mono ?_;rintro e w1 ⟨rfl,rfl⟩)
                      | (go_at_call 38;with_reducible refine (HS.out _).mono ?_;rintro e w1 ⟨rfl,rfl⟩)
                      | (go_at_call 63;with_reducible refine (HC.out _).mono ?_;rintro e w1 ⟨rfl,rfl⟩)
                      | (go_at_call 64;with_reducible refine (HF.out _).mono ?_;rintro e w1 ⟨rfl,rfl⟩)
                      | fail)
                  go_ret
                  first
                    | exact ⟨congrArg (fun b:Bool=>Ending.returned (.bool b)) HE.out.symm,by first | exact La.bel_drewN Hb0.out _ | exact La.bel_drewN (La.bel_drewN Hb0.out _) _ | exact bD (La.bel_drewN Hb0.out _) | exact bD (bD (La.bel_drewN Hb0.out _))⟩
                    | exact ⟨congrArg (fun b:Bool=>Ending.returned (.bool b)) ((decide_eq_true g5).trans HE.out.symm),by first | exact La.bel_drewN Hb0.out _ | exact La.bel_drewN (La.bel_drewN Hb0.out _) _ | exact bD (La.bel_drewN Hb0.out _) | exact bD (bD (La.bel_drewN Hb0.out _))⟩
                    | exact ⟨congrArg (fun b:Bool=>Ending.returned (.bool b)) ((decide_eq_false (by omega)).trans HE.out.symm),by first | exact La.bel_drewN Hb0.out _ | exact La.bel_drewN (La.bel_drewN Hb0.out _) _ | exact bD (La.bel_drewN Hb0.out _) | exact bD (bD (La.bel_drewN Hb0.out _))⟩
        ·
          have HE:Hid (R=false):=by
            show _=_
            rw [HR.out]
            simp [*]
          clear HR
          as_aux_lemma =>
            go_wp2_with (first
                | (go_at_call 62;with_reducible refine (HA.out _).mono ?_;rintro e w1 ⟨rfl,rfl⟩)
                | (go_at_call 38;with_reducible refine (HS.out _).mono ?_;rintro e w1 ⟨rfl,rfl⟩)
                | (go_at_call 63;with_reducible refine (HC.out _).mono ?_;rintro e w1 ⟨rfl,rfl⟩)
                | (go_at_call 64;with_reducible refine (HF.out _).mono ?_;rintro e w1 ⟨rfl,rfl⟩)
                | fail)
            go_ret
            first
              | exact ⟨congrArg (fun b:Bool=>Ending.returned (.bool b)) HE.out.symm,by first | exact La.bel_drewN Hb0.out _ | exact La.bel_drewN (La.bel_drewN Hb0.out _) _ | exact bD (La.bel_drewN Hb0.out _) | exact bD (bD (La.bel_drewN Hb0.out _))⟩
              | exact ⟨congrArg (fun b:Bool=>Ending.returned (.bool b)) ((decide_eq_true g5).trans HE.out.symm),by first | exact La.bel_drewN Hb0.out _ | exact La.bel_drewN (La.bel_drewN Hb0.out _) _ | exact bD (La.bel_drewN Hb0.out _) | exact bD (bD (La.bel_drewN Hb0.out _))⟩
              | exact ⟨congrArg (fun b:Bool=>Ending.returned (.bool b)) ((decide_eq_false (by omega)).trans HE.out.symm),by first | exact La.bel_drewN Hb0.out _ | exact La.bel_drewN (La.bel_drewN Hb0.out _) _ | exact bD (La.bel_drewN Hb0.out _) | exact bD (bD (La.bel_drewN Hb0.out _))⟩
      ·
        have HE:Hid (R=false):=by
          show _=_
          rw [HR.out]
          simp [*]
        clear HR
        as_aux_lemma =>
          go_quiet ((first
            | (go_at_call 62;exact Calls.quiet_of_same (HA.out _))
            | (go_at_call 38;exact Calls.quiet_of_same (HS.out _))))
          go_wp2_with fail
          go_ret
          first
            | exact ⟨congrArg (fun b:Bool=>Ending.returned (.bool b)) HE.out.symm,by first | exact La.bel_drewN Hb0.out _ | exact La.bel_drewN (La.bel_drewN Hb0.out _) _ | exact bD (La.bel_drewN Hb0.out _) | exact bD (bD (La.bel_drewN Hb0.out _))⟩
            | exact ⟨congrArg (fun b:Bool=>Ending.returned (.bool b)) ((decide_eq_true g5).trans HE.out.symm),by first | exact La.bel_drewN Hb0.out _ | exact La.bel_drewN (La.bel_drewN Hb0.out _) _ | exact bD (La.bel_drewN Hb0.out _) | exact bD (bD (La.bel_drewN Hb0.out _))⟩
            | exact ⟨congrArg (fun b:Bool=>Ending.returned (.bool b)) ((decide_eq_false (by omega)).trans HE.out.symm),by first | exact La.bel_drewN Hb0.out _ | exact La.bel_drewN (La.bel_drewN Hb0.out _) _ | exact bD (La.bel_drewN Hb0.out _) | exact bD (bD (La.bel_drewN Hb0.out _))⟩
    ·
      clear c8
      cases s
      ·
        cases eA
        ·
          cases N
          ·
            cases en
            ·
              cases ed
              ·
                go_quiet ((first
                  | (go_at_call 62;exact Calls.quiet_of_same (HA.out _))
                  | (go_at_call 38;exact Calls.quiet_of_same (HS.out _))))
                go_upto_region 4 with fail
                cases ec
                ·
                  have HE:Hid (R=true):=by
                    show _=_
                    rw [HR.out]
                    simp [*]
                  clear HR
                  as_aux_lemma =>
                    go_wp2_with (first
                        | (go_at_call 62;with_reducible refine (HA.out _).mono ?_;rintro e w1 ⟨rfl,rfl⟩)
                        | (go_at_call 38;with_reducible refine (HS.out _).mono ?_;rintro e w1 ⟨rfl,rfl⟩)
                        | (go_at_call 63;with_reducible refine (HC.out _).mono ?_;rintro e w1 ⟨rfl,rfl⟩)
                        | (go_at_call 64;with_reducible refine (HF.out _).mono ?_;rintro e w1 ⟨rfl,rfl⟩)
                        | fail)
                    go_ret
                    first
                      | exact ⟨congrArg (fun b:Bool=>Ending.returned (.bool b)) HE.out.symm,by first | exact La.bel_drewN Hb0.out _ | exact La.bel_drewN (La.bel_drewN Hb0.out _) _ | exact bD (La.bel_drewN Hb0.out _) | exact bD (bD (La.bel_drewN Hb0.out _))⟩
                      | exact ⟨congrArg (fun b:Bool=>Ending.returned (.bool b)) ((decide_eq_true g5).trans HE.out.symm),by first | exact La.bel_drewN Hb0.out _ | exact La.bel_drewN (La.bel_drewN Hb0.out _) _ | exact bD (La.bel_drewN Hb0.out _) | exact bD (bD (La.bel_drewN Hb0.out _))⟩
                      | exact ⟨congrArg (fun b:Bool=>Ending.returned (.bool b)) ((decide_eq_false (by omega)).trans HE.out.symm),by first | exact La.bel_drewN Hb0.out _ | exact La.bel_drewN (La.bel_drewN Hb0.out _) _ | exact bD (La.bel_drewN Hb0.out _) | exact bD (bD (La.bel_drewN Hb0.out _))⟩
                ·
                  have HE:Hid (R=false):=by
                    show _=_
                    rw [HR.out]
                    simp [*]
                  clear HR
                  as_aux_lemma =>
                    go_wp2_with (first
                        | (go_at_call 62;with_reducible refine (HA.out _).mono ?_;rintro e w1 ⟨rfl,rfl⟩)
                        | (go_at_call 38;with_reducible refine (HS.out _).mono ?_;rintro e w1 ⟨rfl,rfl⟩)
                        | (go_at_call 63;with_reducible refine (HC.out _).mono ?_;rintro e w1 ⟨rfl,rfl⟩)
                        | (go_at_call 64;with_reducible refine (HF.out _).mono ?_;rintro e w1 ⟨rfl,rfl⟩)
                        | fail)
                    go_ret
                    first
                      | exact ⟨congrArg (fun b:Bool=>Ending.returned (.bool b)) HE.out.symm,by first | exact La.bel_drewN Hb0.out _ | exact La.bel_drewN (La.bel_drewN Hb0.out _) _ | exact bD (La.bel_drewN Hb0.out _) | exact bD (bD (La.bel_drewN Hb0.out _))⟩
                      | exact ⟨congrArg (fun b:Bool=>Ending.returned (.bool b)) ((decide_eq_true g5).trans HE.out.symm),by first | exact La.bel_drewN Hb0.out _ | exact La.bel_drewN (La.bel_drewN Hb0.out _) _ | exact bD (La.bel_drewN Hb0.out _) | exact bD (bD (La.bel_drewN Hb0.out _))⟩
                      | exact ⟨congrArg (fun b:Bool=>Ending.returned (.bool b)) ((decide_eq_false (by omega)).trans HE.out.symm),by first | exact La.bel_drewN Hb0.out _ | exact La.bel_drewN (La.bel_drewN Hb0.out _) _ | exact bD (La.bel_drewN Hb0.out _) | exact bD (bD (La.bel_drewN Hb0.out _))⟩
              ·
                have HE:Hid (R=false):=by
                  show _=_
                  rw [HR.out]
                  simp [*]
                clear HR
                as_aux_lemma =>
                  go_quiet ((first
                    | (go_at_call 62;exact Calls.quiet_of_same (HA.out _))
                    | (go_at_call 38;exact Calls.quiet_of_same (HS.out _))))
                  go_wp2_with fail
                  go_ret
                  first
                    | exact ⟨congrArg (fun b:Bool=>Ending.returned (.bool b)) HE.out.symm,by first | exact La.bel_drewN Hb0.out _ | exact La.bel_drewN (La.bel_drewN Hb0.out _) _ | exact bD (La.bel_drewN Hb0.out _) | exact bD (bD (La.bel_drewN Hb0.out _))⟩
                    | exact ⟨congrArg (fun b:Bool=>Ending.returned (.bool b)) ((decide_eq_true g5).trans HE.out.symm),by first | exact La.bel_drewN Hb0.out _ | exact La.bel_drewN (La.bel_drewN Hb0.out _) _ | exact bD (La.bel_drewN Hb0.out _) | exact bD (bD (La.bel_drewN Hb0.out _))⟩
                    | exact ⟨congrArg (fun b:Bool=>Ending.returned (.bool b)) ((decide_eq_false (by omega)).trans HE.out.symm),by first | exact La.bel_drewN Hb0.out _ | exact La.bel_drewN (La.bel_drewN Hb0.out _) _ | exact bD (La.bel_drewN Hb0.out _) | exact bD (bD (La.bel_drewN Hb0.out _))⟩
            ·
              have HE:Hid (R=false):=by
                show _=_
                rw [HR.out]
                simp [*]
              clear HR
              as_aux_lemma =>
                go_quiet ((first
                  | (go_at_call 62;exact Calls.quiet_of_same (HA.out _))
                  | (go_at_call 38;exact Calls.quiet_of_same (HS.out _))))
                go_wp2_with fail
                go_ret
                first
                  | exact ⟨congrArg (fun b:Bool=>Ending.returned (.bool b)) HE.out.symm,by first | exact La.bel_drewN Hb0.out _ | exact La.bel_drewN (La.bel_drewN Hb0.out _) _ | exact bD (La.bel_drewN Hb0.out _) | exact bD (bD (La.bel_drewN Hb0.out _))⟩
                  | exact ⟨congrArg (fun b:Bool=>Ending.returned (.bool b)) ((decide_eq_true g5).trans HE.out.symm),by first | exact La.bel_drewN Hb0.out _ | exact La.bel_drewN (La.bel_drewN Hb0.out _) _ | exact bD (La.bel_drewN Hb0.out _) | exact bD (bD (La.bel_drewN Hb0.out _))⟩
                  | exact ⟨congrArg (fun b:Bool=>Ending.returned (.bool b)) ((decide_eq_false (by omega)).trans HE.out.symm),by first | exact La.bel_drewN Hb0.out _ | exact La.bel_drewN (La.bel_drewN Hb0.out _) _ | exact bD (La.bel_drewN Hb0.out _) | exact bD (bD (La.bel_drewN Hb0.out _))⟩
          ·
            have HE:Hid (R=false):=by
              show _=_
              rw [HR.out]
              simp [*]
            clear HR
            as_aux_lemma =>
              go_quiet ((first
                | (go_at_call 62;exact Calls.quiet_of_same (HA.out _))
                | (go_at_call 38;exact Calls.quiet_of_same (HS.out _))))
              go_wp2_with fail
              go_ret
              first
                | exact ⟨congrArg (fun b:Bool=>Ending.returned (.bool b)) HE.out.symm,by first | exact La.bel_drewN Hb0.out _ | exact La.bel_drewN (La.bel_drewN Hb0.out _) _ | exact bD (La.bel_drewN Hb0.out _) | exact bD (bD (La.bel_drewN Hb0.out _))⟩
                | exact ⟨congrArg (fun b:Bool=>Ending.returned (.bool b)) ((decide_eq_true g5).trans HE.out.symm),by first | exact La.bel_drewN Hb0.out _ | exact La.bel_drewN (La.bel_drewN Hb0.out _) _ | exact bD (La.bel_drewN Hb0.out _) | exact bD (bD (La.bel_drewN Hb0.out _))⟩
                | exact ⟨congrArg (fun b:Bool=>Ending.returned (.bool b)) ((decide_eq_false (by omega)).trans HE.out.symm),by first | exact La.bel_drewN Hb0.out _ | exact La.bel_drewN (La.bel_drewN Hb0.out _) _ | exact bD (La.bel_drewN Hb0.out _) | exact bD (bD (La.bel_drewN Hb0.out _))⟩
        ·
          have HE:Hid (R=false):=by
            show _=_
            rw [HR.out]
            simp [*]
          clear HR
          as_aux_lemma =>
            go_quiet ((first
              | (go_at_call 62;exact Calls.quiet_of_same (HA.out _))
              | (go_at_call 38;exact Calls.quiet_of_same (HS.out _))))
            go_wp2_with fail
            go_ret
            first
              | exact ⟨congrArg (fun b:Bool=>Ending.returned (.bool b)) HE.out.symm,by first | exact La.bel_drewN Hb0.out _ | exact La.bel_drewN (La.bel_drewN Hb0.out _) _ | exact bD (La.bel_drewN Hb0.out _) | exact bD (bD (La.bel_drewN Hb0.out _))⟩
              | exact ⟨congrArg (fun b:Bool=>Ending.returned (.bool b)) ((decide_eq_true g5).trans HE.out.symm),by first | exact La.bel_drewN Hb0.out _ | exact La.bel_drewN (La.bel_drewN Hb0.out _) _ | exact bD (La.bel_drewN Hb0.out _) | exact bD (bD (La.bel_drewN Hb0.out _))⟩
              | exact ⟨congrArg (fun b:Bool=>Ending.returned (.bool b)) ((decide_eq_false (by omega)).trans HE.out.symm),by first | exact La.bel_drewN Hb0.out _ | exact La.bel_drewN (La.bel_drewN Hb0.out _) _ | exact bD (La.bel_drewN Hb0.out _) | exact bD (bD (La.bel_drewN Hb0.out _))⟩
      ·
        cases eA
        ·
          cases en
          ·
            cases ed
            ·
              go_quiet ((first
                | (go_at_call 62;exact Calls.quiet_of_same (HA.out _))
                | (go_at_call 38;exact Calls.quiet_of_same (HS.out _))))
              go_upto_region 4 with fail
              cases ec
              ·
                by_cases g1:wi < 1
                ·
                  have HE:Hid (R=false):=by
                    show _=_
                    rw [HR.out]
                    simp [*]
                  clear HR
                  as_aux_lemma =>
                    go_wp2_with (first
                        | (go_at_call 62;with_reducible refine (HA.out _).mono ?_;rintro e w1 ⟨rfl,rfl⟩)
                        | (go_at_call 38;with_reducible refine (HS.out _).mono ?_;rintro e w1 ⟨rfl,rfl⟩)
                        | (go_at_call 63;with_reducible refine (HC.out _).mono ?_;rintro e w1 ⟨rfl,rfl⟩)
                        | (go_at_call 64;with_reducible refine (HF.out _).mono ?_;rintro e w1 ⟨rfl,rfl⟩)
                        | fail)
                    go_ret
                    first
                      | exact ⟨congrArg (fun b:Bool=>Ending.returned (.bool b)) HE.out.symm,by first | exact La.bel_drewN Hb0.out _ | exact La.bel_drewN (La.bel_drewN Hb0.out _) _ | exact bD (La.bel_drewN Hb0.out _) | exact bD (bD (La.bel_drewN Hb0.out _))⟩
                      | exact ⟨congrArg (fun b:Bool=>Ending.returned (.bool b)) ((decide_eq_true g5).trans HE.out.symm),by first | exact La.bel_drewN Hb0.out _ | exact La.bel_drewN (La.bel_drewN Hb0.out _) _ | exact bD (La.bel_drewN Hb0.out _) | exact bD (bD (La.bel_drewN Hb0.out _))⟩
                      | exact ⟨congrArg (fun b:Bool=>Ending.returned (.bool b)) ((decide_eq_false (by omega)).trans HE.out.symm),by first | exact La.bel_drewN Hb0.out _ | exact La.bel_drewN (La.bel_drewN Hb0.out _) _ | exact bD (La.bel_drewN Hb0.out _) | exact bD (bD (La.bel_drewN Hb0.out _))⟩
                ·
                  by_cases g2:4611686018427387904 < wi
                  ·
                    have HE:Hid (R=false):=by
                      show _=_
                      rw [HR.out]
                      simp [*]
                    clear HR
                    as_aux_lemma =>
                      go_wp2_with (first
                          | (go_at_call 62;with_reducible refine (HA.out _).mono ?_;rintro e w1 ⟨rfl,rfl⟩)
                          | (go_at_call 38;with_reducible refine (HS.out _).mono ?_;rintro e w1 ⟨rfl,rfl⟩)
                          | (go_at_call 63;with_reducible refine (HC.out _).mono ?_;rintro e w1 ⟨rfl,rfl⟩)
                          | (go_at_call 64;with_reducible refine (HF.out _).mono ?_;rintro e w1 ⟨rfl,rfl⟩)
                          | fail)
                      go_ret
                      first
                        | exact ⟨congrArg (fun b:Bool=>Ending.returned (.bool b)) HE.out.symm,by first | exact La.bel_drewN Hb0.out _ | exact La.bel_drewN (La.bel_drewN Hb0.out _) _ | exact bD (La.bel_drewN Hb0.out _) | exact bD (bD (La.bel_drewN Hb0.out _))⟩
                        | exact ⟨congrArg (fun b:Bool=>Ending.returned (.bool b)) ((decide_eq_true g5).trans HE.out.symm),by first | exact La.bel_drewN Hb0.out _ | exact La.bel_drewN (La.bel_drewN Hb0.out _) _ | exact bD (La.bel_drewN Hb0.out _) | exact bD (bD (La.bel_drewN Hb0.out _))⟩
                        | exact ⟨congrArg (fun b:Bool=>Ending.returned (.bool b)) ((decide_eq_false (by omega)).trans HE.out.symm),by first | exact La.bel_drewN Hb0.out _ | exact La.bel_drewN (La.bel_drewN Hb0.out _) _ | exact bD (La.bel_drewN Hb0.out _) | exact bD (bD (La.bel_drewN Hb0.out _))⟩
                  ·
                    have HE:Hid (R=true):=by
                      show _=_
                      rw [HR.out]
                      simp [*]
                    clear HR
                    as_aux_lemma =>
                      go_wp2_with (first
                          | (go_at_call 62;with_reducible refine (HA.out _).mono ?_;rintro e w1 ⟨rfl,rfl⟩)
                          | (go_at_call 38;with_reducible refine (HS.out _).mono ?_;rintro e w1 ⟨rfl,rfl⟩)
                          | (go_at_call 63;with_reducible refine (HC.out _).mono ?_;rintro e w1 ⟨rfl,rfl⟩)
                          | (go_at_call 64;with_reducible refine (HF.out _).mono ?_;rintro e w1 ⟨rfl,rfl⟩)
                          | fail)
                      go_ret
                      first
                        | exact ⟨congrArg (fun b:Bool=>Ending.returned (.bool b)) HE.out.symm,by first | exact La.bel_drewN Hb0.out _ | exact La.bel_drewN (La.bel_drewN Hb0.out _) _ | exact bD (La.bel_drewN Hb0.out _) | exact bD (bD (La.bel_drewN Hb0.out _))⟩
                        | exact ⟨congrArg (fun b:Bool=>Ending.returned (.bool b)) ((decide_eq_true g5).trans HE.out.symm),by first | exact La.bel_drewN Hb0.out _ | exact La.bel_drewN (La.bel_drewN Hb0.out _) _ | exact bD (La.bel_drewN Hb0.out _) | exact bD (bD (La.bel_drewN Hb0.out _))⟩
                        | exact ⟨congrArg (fun b:Bool=>Ending.returned (.bool b)) ((decide_eq_false (by omega)).trans HE.out.symm),by first | exact La.bel_drewN Hb0.out _ | exact La.bel_drewN (La.bel_drewN Hb0.out _) _ | exact bD (La.bel_drewN Hb0.out _) | exact bD (bD (La.bel_drewN Hb0.out _))⟩
              ·
                have HE:Hid (R=false):=by
                  show _=_
                  rw [HR.out]
                  simp [*]
                clear HR
                as_aux_lemma =>
                  go_wp2_with (first
                      | (go_at_call 62;with_reducible refine (HA.out _).mono ?_;rintro e w1 ⟨rfl,rfl⟩)
                      | (go_at_call 38;with_reducible refine (HS.out _).mono ?_;rintro e w1 ⟨rfl,rfl⟩)
                      | (go_at_call 63;with_reducible refine (HC.out _).mono ?_;rintro e w1 ⟨rfl,rfl⟩)
                      | (go_at_call 64;with_reducible refine (HF.out _).mono ?_;rintro e w1 ⟨rfl,rfl⟩)
                      | fail)
                  go_ret
                  first
                    | exact ⟨congrArg (fun b:Bool=>Ending.returned (.bool b)) HE.out.symm,by first | exact La.bel_drewN Hb0.out _ | exact La.bel_drewN (La.bel_drewN Hb0.out _) _ | exact bD (La.bel_drewN Hb0.out _) | exact bD (bD (La.bel_drewN Hb0.out _))⟩
                    | exact ⟨congrArg (fun b:Bool=>Ending.returned (.bool b)) ((decide_eq_true g5).trans HE.out.symm),by first | exact La.bel_drewN Hb0.out _ | exact La.bel_drewN (La.bel_drewN Hb0.out _) _ | exact bD (La.bel_drewN Hb0.out _) | exact bD (bD (La.bel_drewN Hb0.out _))⟩
                    | exact ⟨congrArg (fun b:Bool=>Ending.returned (.bool b)) ((decide_eq_false (by omega)).trans HE.out.symm),by first | exact La.bel_drewN Hb0.out _ | exact La.bel_drewN (La.bel_drewN Hb0.out _) _ | exact bD (La.bel_drewN Hb0.out _) | exact bD (bD (La.bel_drewN Hb0.out _))⟩
            ·
              have HE:Hid (R=false):=by
                show _=_
                rw [HR.out]
                simp [*]
              clear HR
              as_aux_lemma =>
                go_quiet ((first
                  | (go_at_call 62;exact Calls.quiet_of_same (HA.out _))
                  | (go_at_call 38;exact Calls.quiet_of_same (HS.out _))))
                go_wp2_with fail
                go_ret
                first
                  | exact ⟨congrArg (fun b:Bool=>Ending.returned (.bool b)) HE.out.symm,by first | exact La.bel_drewN Hb0.out _ | exact La.bel_drewN (La.bel_drewN Hb0.out _) _ | exact bD (La.bel_drewN Hb0.out _) | exact bD (bD (La.bel_drewN Hb0.out _))⟩
                  | exact ⟨congrArg (fun b:Bool=>Ending.returned (.bool b)) ((decide_eq_true g5).trans HE.out.symm),by first | exact La.bel_drewN Hb0.out _ | exact La.bel_drewN (La.bel_drewN Hb0.out _) _ | exact bD (La.bel_drewN Hb0.out _) | exact bD (bD (La.bel_drewN Hb0.out _))⟩
                  | exact ⟨congrArg (fun b:Bool=>Ending.returned (.bool b)) ((decide_eq_false (by omega)).trans HE.out.symm),by first | exact La.bel_drewN Hb0.out _ | exact La.bel_drewN (La.bel_drewN Hb0.out _) _ | exact bD (La.bel_drewN Hb0.out _) | exact bD (bD (La.bel_drewN Hb0.out _))⟩
          ·
            have HE:Hid (R=false):=by
              show _=_
              rw [HR.out]
              simp [*]
            clear HR
            as_aux_lemma =>
              go_quiet ((first
                | (go_at_call 62;exact Calls.quiet_of_same (HA.out _))
                | (go_at_call 38;exact Calls.quiet_of_same (HS.out _))))
              go_wp2_with fail
              go_ret
              first
                | exact ⟨congrArg (fun b:Bool=>Ending.returned (.bool b)) HE.out.symm,by first | exact La.bel_drewN Hb0.out _ | exact La.bel_drewN (La.bel_drewN Hb0.out _) _ | exact bD (La.bel_drewN Hb0.out _) | exact bD (bD (La.bel_drewN Hb0.out _))⟩
                | exact ⟨congrArg (fun b:Bool=>Ending.returned (.bool b)) ((decide_eq_true g5).trans HE.out.symm),by first | exact La.bel_drewN Hb0.out _ | exact La.bel_drewN (La.bel_drewN Hb0.out _) _ | exact bD (La.bel_drewN Hb0.out _) | exact bD (bD (La.bel_drewN Hb0.out _))⟩
                | exact ⟨congrArg (fun b:Bool=>Ending.returned (.bool b)) ((decide_eq_false (by omega)).trans HE.out.symm),by first | exact La.bel_drewN Hb0.out _ | exact La.bel_drewN (La.bel_drewN Hb0.out _) _ | exact bD (La.bel_drewN Hb0.out _) | exact bD (bD (La.bel_drewN Hb0.out _))⟩
        ·
          have HE:Hid (R=false):=by
            show _=_
            rw [HR.out]
            simp [*]
          clear HR
          as_aux_lemma =>
            go_quiet ((first
              | (go_at_call 62;exact Calls.quiet_of_same (HA.out _))
              | (go_at_call 38;exact Calls.quiet_of_same (HS.out _))))
            go_wp2_with fail
            go_ret
            first
              | exact ⟨congrArg (fun b:Bool=>Ending.returned (.bool b)) HE.out.symm,by first | exact La.bel_drewN Hb0.out _ | exact La.bel_drewN (La.bel_drewN Hb0.out _) _ | exact bD (La.bel_drewN Hb0.out _) | exact bD (bD (La.bel_drewN Hb0.out _))⟩
              | exact ⟨congrArg (fun b:Bool=>Ending.returned (.bool b)) ((decide_eq_true g5).trans HE.out.symm),by first | exact La.bel_drewN Hb0.out _ | exact La.bel_drewN (La.bel_drewN Hb0.out _) _ | exact bD (La.bel_drewN Hb0.out _) | exact bD (bD (La.bel_drewN Hb0.out _))⟩
              | exact ⟨congrArg (fun b:Bool=>Ending.returned (.bool b)) ((decide_eq_false (by omega)).trans HE.out.symm),by first | exact La.bel_drewN Hb0.out _ | exact La.bel_drewN (La.bel_drewN Hb0.out _) _ | exact bD (La.bel_drewN Hb0.out _) | exact bD (bD (La.bel_drewN Hb0.out _))⟩
theorem dfields_any (k:Int) (x:Nat) (nm:List UInt8) (la:Option Addr) (ln lc:Nat) (wi n d:Int) (aa:Option Addr) (al ac:Nat) (hx:x < 18446744073709551616) (w:World) :
    Calls Tryz.prog 43 #[rx k x nm (.slice la ln lc) wi n d (.slice aa al ac)] w fun e w'=>e=.returned (.bool (dFld k x nm ln wi n d al))∧Below w.heap.size w w':=by
  rcases Nat.eq_zero_or_pos ln with rfl | g
  · exact dfields_zero k x nm la lc wi n d aa al ac hx w
  · exact dfields_pos k x nm la ln lc wi n d aa al ac g hx w
end Go.Proofs.YtibahfopmjiffaaGreatDoor.Ru
