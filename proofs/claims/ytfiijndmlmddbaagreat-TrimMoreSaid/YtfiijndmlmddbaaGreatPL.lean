/- Part of the proofs over this program: WalkMore, GramOpen, RowKit. -/
import Derived.Lib.MinMax
import Derived.Deep.Slices
import Derived.Deep.Fields
import Derived.ChangeSame
import Derived.Lib.SmallJoins
import Derived.SliceStrings
import Derived.Test.YtfiijndmlmddbaaGreatRows
import Derived.SizedLaws
import Derived.LaidMore
import Derived.Stop.Joined
import Derived.ShutString
import Derived.ChangeOld
import Derived.Test.YtfiijndmlmddbaaGreatPK
namespace Go.Proofs.YtfiijndmlmddbaaGreat
set_option maxRecDepth 100000
open Go.RowKit

/-- append of one number, which lies in a block of its own, to a slice of the call's own: as one operation. -/
theorem apI_wp {w : World} {o : Oper} {a : Act} {Q : Exit → Act → World → Prop} {K : Act → World → Prop}
    (s x : Operand) (t : TypeId) (ho : o.op = .call { callee := .builtin .append, args := #[s, x], argTypes := #[t, t] }) (ht : Tryz.prog.underlying t = some (.slice 3))
    (base : Nat) (v : Value) (xs : List Int) (hs : a.eval s = v) (hown : OwnI w base v xs) (g c : Nat) (z : Int) (hx : a.eval x = .slice (some ⟨g, 0, none⟩) 1 c) (hz : w.cell? ⟨g, 0, none⟩ = some (.int .i64 z))
    (hlen : xs.length ≤ 1000000000000) (hbase : base ≤ w.heap.size)
    (hK : ∀ v' w', OwnI w' base v' (xs ++ [z]) → w.grownBy w' v.ownBlock → K (a.put o.dst v') w') :
    o.wp Tryz.prog a w K Q := by
  obtain ⟨i, hi, hz0, hz1, hz2⟩ := info_parts infoI
  refine wp_append_own w s x t ho base 3 i (.int .i64 0) 1 8 ht hi hz0 hz1 hz2 rfl (by decide) v xs.length (xs.map (Value.int .i64)) hs hown ⟨g, 0, none⟩ 1 c [.int .i64 z] hx rfl ?_ ?_ (by unfold maxLen; omega) (by omega) hbase fun v' w' h1 h2 _ => hK v' w' ?_ h2
  · intro j u hj
    match j, hj with
    | 0, hj => simp at hj; subst hj; simpa [Addr.add] using hz
    | j + 1, hj => simp at hj
  · intro u hu; simp at hu; subst hu; rfl
  · unfold OwnI
    rw [List.length_append, List.map_append]; exact h1

/-- A grammar of the call's own, which lies in a block of the call's own. -/
structure MoS (w1 wr : World) (B H : Nat) (cs : Array Value) (vT vN vR : Value) (ts : List Gm.Tm) (ns : List (List Int)) (rs : List Gm.Rl) : Prop where
  h : wr.heap[H]? = some (.cells cs 26 (0, 0))
  t : OwnTm wr B vT ts
  nn : OwnN wr B vN ns
  r : OwnRl wr B wr.heap.size vR rs
  w : Below B w1 wr
  hs : B ≤ wr.heap.size
  hH : B ≤ H
section
variable {w1 wr w' : World} {B H : Nat} {cs : Array Value} {vT vN vR : Value} {ts : List Gm.Tm} {ns : List (List Int)} {rs : List Gm.Rl}
theorem MoS.alloc (h : MoS w1 wr B H cs vT vN vR ts ns rs) (o : Obj) : MoS w1 (wr.alloc o) B H cs vT vN vR ts ns rs := by
  have hg := World.grownBy_alloc wr o .none
  exact ⟨(hg.block H (Array.getElem?_eq_some_iff.1 h.h).1 (fun e => by cases e)).trans h.h, World.ownsRow.kept h.t hg (none_away _), World.ownsRow.kept h.nn hg (none_away _), (h.r.grown hg (fun g e => by cases e)).more hg.size, h.w.grown hg h.hs (fun k e => by cases e), Nat.le_trans h.hs hg.size, h.hH⟩
theorem MoS.setH (h : MoS w1 wr B H cs vT vN vR ts ns rs) (j : Nat) (u : Value) : MoS w1 (wr.setCell ⟨H, j, none⟩ u) B H (cs.setIfInBounds j u) vT vN vR ts ns rs := by
  have hs : wr.grownBy (wr.setCell ⟨H, j, none⟩ u) (some H) := only_set (World.grownBy.refl wr (some H)) j u
  refine ⟨heap_setCell_same wr H j _ _ u h.h, World.ownsRow.kept h.t hs (own_away h.t h.h (fun cur e => by injection e with _ e; cases e)), World.ownsRow.kept h.nn hs (own_away h.nn h.h (fun cur e => by injection e with _ e; cases e)), (h.r.grown hs ?_).more hs.size, h.w.grown hs h.hs (fun k e => by injection e with e; rw [← e]; exact h.hH), Nat.le_trans h.hs hs.size, h.hH⟩
  intro g e
  injection e with e
  subst e
  exact .inl ⟨cells_ne h.h (by decide), cells_ne h.h (by decide)⟩
theorem MoS.putR (h : MoS w1 wr B H cs vT vN vR ts ns rs) {v' : Value} {rs' : List Gm.Rl} (ho : OwnRl w' B w'.heap.size v' rs') (hg : wr.grownBy w' vR.ownBlock) : MoS w1 w' B H cs vT vN v' ts ns rs' := by
  obtain ⟨qs, _, h2, _⟩ := id h.r
  have hh := h.h
  exact ⟨cells_row hh h2 (by decide) hg, World.ownsRow.kept h.t hg (other_row h.t h2 (by decide)), World.ownsRow.kept h.nn hg (other_row h.nn h2 (by decide)), ho, h.w.grown hg h.hs (fun k e => (own_holds h2 e).1), Nat.le_trans h.hs hg.size, h.hH⟩
theorem MoS.rd (h : MoS w1 wr B H cs vT vN vR ts ns rs) (z : Int) : RdGr wr wr.heap.size (.agg #[vT, vN, vR, .int .i64 z]) ⟨ts, ns, rs, z⟩ := by
  obtain ⟨AT, cT, rfl, h1, h2⟩ := tm_of_own h.t
  obtain ⟨AN, cN, rfl, h3, h4⟩ := n_of_own h.nn
  obtain ⟨AR, cR, rfl, h5, h6⟩ := rl_of_own h.r (Nat.le_refl _)
  exact ⟨AT, cT, AN, cN, AR, cR, rfl, h1, h3, h5, h2, h4, h6⟩
end
theorem Gm.mx_in {xs : List Int} (h : ∀ z ∈ xs, Gm.In z) : Gm.In (Gm.mxR xs) := by
  obtain ⟨_, _, h3⟩ := Gm.mx_from xs (-1)
  rcases h3 with h3 | h3
  · unfold Gm.mxR Gm.In; omega
  · exact h _ h3
theorem Gm.add_fit {G : Gm.Gr} (h : Gm.Fit G) {l p : Int} {xs : List Int} (hl : Gm.In l) (hp : Gm.In p) (hx : ∀ z ∈ xs, Gm.In z) : Gm.Fit (Gm.addR G ⟨l, xs, p⟩) :=
  ⟨h.t, h.n, fun x hx' => by
    rcases List.mem_append.1 hx' with q | q
    · exact h.r x q
    · rw [List.mem_singleton.1 q]; exact ⟨hl, hp, hx⟩, h.s⟩

set_option maxHeartbeats 16000000 in
theorem trimMore_walk (v : Value) (G : Gm.Gr) (l0 : Nat) (A : Option Addr) (c : Nat) (xs : List Int) (w : World) (hg : RdGr w w.heap.size v G) (hf : Gm.Fit G) (hl0 : l0 ≤ 255) (hr : RdI w w.heap.size A xs) (hin : ∀ z ∈ xs, Gm.In z) (hc : xs.length ≤ c) (hcm : c ≤ 9223372036854775807) :
    Calls Tryz.prog 6 #[v, .int .u8 l0, .slice A xs.length c] w fun e w' => e = .returned (.bool true) ∧ Below w.heap.size w w' := by
  have HGG := hide (fun (x : World) (h : Below w.heap.size w x) => hg.below h (Nat.le_refl _))
  have HRI := hide (fun (x : World) (h : Below w.heap.size w x) => hr.below h (Nat.le_refl _))
  have HAL := hide (fun (x : World) => alive11_any x)
  have TG := hide (fun (x : World) (h : Below w.heap.size w x) => great9_any v G w.heap.size x (HGG.out x h) h.size)
  have TRT := hide (fun (x : World) (h : Below w.heap.size w x) => rright_any v G w.heap.size x (HGG.out x h) hf h.size)
  have THS := hide (fun (z : Int) (hz : Gm.In z) (x : World) (h : Below w.heap.size w x) => rhas_any9 v G w.heap.size z hz x (HGG.out x h))
  have TC := hide (fun (hh : Gm.great G = false) (x : World) (h : Below w.heap.size w x) => rcopy9_own v G w.heap.size x (HGG.out x h) h.size (by have := not_great11 hh; omega) (by have := not_great11 hh; omega) (by have := not_great11 hh; omega) (fun r hr => by have := (not_great11 hh).2.2.2 r hr; omega))
  have TN := hide (fun (x : World) (h : Below w.heap.size w x) => nullable_any v G w.heap.size x (HGG.out x h) hf h.size)
  have TP := hide (fun (x : World) (h : Below w.heap.size w x) => productive_any v G w.heap.size x (HGG.out x h) hf h.size)
  have TQ := hide (fun (x : World) (h : Below w.heap.size w x) => reachable_any v G w.heap.size x (HGG.out x h) hf h.size)
  have HFT := hide hf
  have HIN := hide hin
  have hxl : (xs.length : Int) ≤ 9223372036854775807 := by omega
  obtain ⟨A0, c0, A1, c1, A2, c2, rfl, _, ⟨hnl, hnm⟩, ⟨hrl, hrm⟩, _, _, _⟩ := hg
  have HQ0 := hide (One.start w #[.slice A0 G.ts.length c0, .slice A1 G.ns.length c1, .slice A2 G.rs.length c2, .int .i64 G.st])
  have HXC := hide (fun (x : World) (h : One w #[.slice A0 G.ts.length c0, .slice A1 G.ns.length c1, .slice A2 G.rs.length c2, .int .i64 G.st] x) => And.intro (h.c 0 _ rfl) (And.intro (h.c 1 _ rfl) (And.intro (h.c 2 _ rfl) (h.c 3 _ rfl))))
  clear hf hr hin
  go_enter Tryz.func6, Tryz.ntmps6
  go_wp2_with fail
  refine (HAL.out _).mono ?_; rintro _ w1 ⟨rfl, hb1⟩
  have HQ1 := hide (HQ0.out.on hb1)
  obtain ⟨x0, x1, x2, x3⟩ := HXC.out w1 HQ1.out
  clear hb1
  cases hgr : Gm.great G with
  | true =>
    rw [hgr] at TG
    clear TRT THS TC TN TP TQ
    go_wp2_with fail
    refine (TG.out _ HQ1.out.below).mono ?_; rintro _ w2 ⟨rfl, hb2⟩
    have HQ2 := hide (HQ1.out.on hb2)
    clear hb2
    go_wp2
    go_ret
    exact ⟨rfl, HQ2.out.below⟩
  | false =>
    have HGF := hide hgr
    rw [hgr] at TG
    go_wp2_with fail
    refine (TG.out _ HQ1.out.below).mono ?_; rintro _ w2 ⟨rfl, hb2⟩
    have HQ2 := hide (HQ1.out.on hb2)
    clear x0 x1 x2 x3 hb2 hgr TG
    obtain ⟨x0, x1, x2, x3⟩ := HXC.out w2 HQ2.out
    cases hrt : Gm.right G with
    | false =>
      rw [hrt] at TRT
      clear THS TC TN TP TQ
      go_wp2_with fail
      refine (TRT.out _ HQ2.out.below).mono ?_; rintro _ w3 ⟨rfl, hb3⟩
      have HQ3 := hide (HQ2.out.on hb3)
      clear x0 x1 x2 x3 hb3 hrt
      go_wp2
      go_ret
      exact ⟨rfl, HQ3.out.below⟩
    | true =>
      have hok := Gm.right_ok.1 hrt
      have HOK := hide hok
      rw [hrt] at TRT TN TP TQ
      go_wp2_with fail
      refine (TRT.out _ HQ2.out.below).mono ?_; rintro _ w3 ⟨rfl, hb3⟩
      have HQ3 := hide (HQ2.out.on hb3)
      clear x0 x1 x2 x3 hb3 hrt TRT
      obtain ⟨x0, x1, x2, x3⟩ := HXC.out w3 HQ3.out
      have lw3 : w.heap.size < w3.heap.size := HQ3.out.size
      have hrl2 : (G.rs.length : Int) ≤ 9223372036854775807 := by omega
      have hnl2 : (G.ns.length : Int) ≤ 9223372036854775807 := by omega
      have hn16 := (Gm.nons_iff G).1 hok.n
      have HN16 := hide (show 1 ≤ G.ns.length ∧ G.ns.length ≤ 40 from by omega)
      have HR40 := hide hok.r40
      clear hn16 hok hnl hnm hrl hrm
      by_cases h40 : G.rs.length = 40
      · have hd4 : ((G.rs.length : Int) == 40) = true := by rw [h40]; rfl
        clear h40 THS TC TN TP TQ
        go_wp2
        go_ret
        exact ⟨rfl, HQ3.out.below⟩
      · have hd4 : ((G.rs.length : Int) == 40) = false := by simp; omega
        have HL40 := hide (show G.rs.length < 40 from by have := HR40.out; omega)
        clear h40
        by_cases h6 : 6 < xs.length
        · have hd6 : decide ((6 : Int) < (xs.length : Int)) = true := decide_eq_true (by omega)
          clear h6 THS TC TN TP TQ
          go_wp2
          go_ret
          exact ⟨rfl, HQ3.out.below⟩
        · have hd6 : decide ((6 : Int) < (xs.length : Int)) = false := decide_eq_false (by omega)
          have HX6 := hide (show xs.length ≤ 6 from by omega)
          clear h6
          go_upto_region 5 with fail
          clear hd4 hd6
          obtain ⟨lz, hlz⟩ : ∃ z : Int, z = (l0 : Int) % (G.ns.length : Int) := ⟨_, rfl⟩
          have hlz0 : 0 ≤ lz ∧ lz < G.ns.length := by rw [hlz]; have := HN16.out; exact ⟨Int.emod_nonneg _ (by omega), Int.emod_lt_of_pos _ (by omega)⟩
          have hcv : IntKind.i64.wrap (l0 : Int) = (l0 : Int) := IntWalk.i64_in _ (by omega)
          obtain ⟨nn, hnn⟩ : ∃ n : Nat, n = G.ns.length := ⟨_, rfl⟩
          have hnn1 : 1 ≤ nn := by rw [hnn]; exact HN16.out.1
          have hmd : Int.tmod (l0 : Int) (nn : Int) = lz := by rw [hlz, hnn]; exact Int.tmod_eq_emod_of_nonneg (by omega)
          have hwz : IntKind.i64.wrap lz = lz := IntWalk.i64_in _ (by have := HN16.out; omega)
          rw [← hnn] at x1 hnl2
          have HNN := hide hnn
          have hnz : ((nn : Int) == 0) = false := beq_eq_false_iff_ne.2 (by omega)
          have hnz2 : ¬ nn = 0 := by omega
          have HLZ := hide hlz0
          clear hlz hlz0 hnn
          go_upto_region 7 with fail
          obtain ⟨D, hD⟩ : ∃ d, d = w3.heap.size := ⟨_, rfl⟩
          have HD3 : Hid (D = w3.heap.size) := hide hD
          have HB4 : Hid (Below w3.heap.size w3 (w3.alloc (.cells #[.int .i64 lz, .slice none 0 0, .int .i64 (-1)] 40))) := hide ((Below.refl _ _).alloc (Nat.le_refl _) _)
          have HH4 : Hid ((w3.alloc (.cells #[.int .i64 lz, .slice none 0 0, .int .i64 (-1)] 40)).heap[D]? = some (.cells #[.int .i64 lz, .slice none 0 0, .int .i64 (-1)] 40 (0, 0))) := hide (by rw [hD]; exact heap_alloc_new w3 _)
          obtain ⟨w4, hw4⟩ : ∃ y, y = w3.alloc (.cells #[.int .i64 lz, .slice none 0 0, .int .i64 (-1)] 40) := ⟨_, rfl⟩
          rw [← hw4] at HB4 HH4 ⊢
          rw [← hD]
          clear hD hw4 x0 x1 x2 x3 hnz hnz2 hmd hwz hcv lw3
          go_loopw [8] (fun vi wr => ∃ (i : Nat) (vr : Value), i ≤ xs.length ∧ vi = .int .i64 i ∧ Hid (wr.heap[D]? = some (.cells #[.int .i64 lz, vr, .int .i64 (Gm.mxR (xs.take i))] 40 (0, 0))) ∧ Hid (OwnI wr (D + 1) vr (xs.take i)) ∧ Hid (Below w3.heap.size w3 wr) ∧ Hid (∀ z ∈ xs.take i, Gm.has G z = true)) (fun vi _ => xs.length - (intOf vi).toNat)
          case atStart => exact ⟨0, _, Nat.zero_le _, rfl, HH4, hide (OwnI.nil _ _), HB4, hide (by simp)⟩
          case round =>
            clear HB4 HH4
            obtain ⟨i, vr, hi, rfl, HD, HO, HB, HA⟩ := hrel
            rename World => wr
            have HQr := hide (HQ3.out.on HB.out)
            by_cases hlt : i < xs.length
            · obtain ⟨g, o, rfl, hgw, hck⟩ := HRI.out wr HQr.out.below (by omega)
              have kx := hck i hlt
              have lgw : g < wr.heap.size := by have := HQr.out.size; omega
              have hiz := HIN.out _ (List.getElem_mem hlt)
              obtain ⟨z, hz⟩ : ∃ z, z = xs.getD i 0 := ⟨_, rfl⟩
              have hz2 : xs[i] = z := by rw [hz]; exact (L.gd_lt hlt).symm
              rw [← hz] at kx
              rw [hz2] at hiz
              have HTK := hide (show xs.take (i + 1) = xs.take i ++ [z] from by rw [← hz2]; exact List.take_succ_eq_append_getElem hlt)
              have HHS := hide (fun (x : World) (h : Below w.heap.size w x) => THS.out _ hiz x h)
              clear hz2
              clear hck hz
              go_upto_region 9 with fail
              go_cut [56] (fun v56 wx => v56 = .bool (!Gm.has G z) ∧ Below wr.heap.size wr wx)
              case first =>
                have q0 := fun y : Calm.On wr.heap.size wr => (HQr.out.on y.2).c 0 _ rfl
                have q1 := fun y : Calm.On wr.heap.size wr => (HQr.out.on y.2).c 1 _ rfl
                have q2 := fun y : Calm.On wr.heap.size wr => (HQr.out.on y.2).c 2 _ rfl
                have q3 := fun y : Calm.On wr.heap.size wr => (HQr.out.on y.2).c 3 _ rfl
                have q4 := fun y : Calm.On wr.heap.size wr => (y.2.cell (p := ⟨g, o + i, none⟩) lgw).trans kx
                have HD0 : Hid (Below wr.heap.size wr wr.drew) := hide (below_drewN (Below.refl _ _) 1)
                refine CalmN.region_tree (fun x => ∃ y : Calm.On wr.heap.size wr, x = y.1) (.one [0, 1, 2, 3, 4] 5 (.fin [6])) (by kernel_rfl) (by kernel_rfl) (fun _ _ d _ _ h => by cases d <;> exact h) ⟨⟨wr.drew, HD0.out⟩, rfl⟩ ?_
                simp only [CalmN.wpT, CalmN.wpSt, CalmN.pickOps, List.getElem?_toArray, List.getElem?_cons_zero, List.getElem?_cons_succ]
                repeat (go_big_quiet_step (fail))
                refine wpQuiet_nil ?_
                clear q0 q1 q2 q3 q4
                obtain ⟨wd, hwd⟩ : ∃ y, y = wr.drew := ⟨_, rfl⟩
                rw [← hwd] at HD0 ⊢
                clear hwd
                intro KK hKK
                rw [if_pos (by rfl)]
                go_wp2_with fail
                refine (HHS.out wd (HQr.out.on HD0.out).below).mono ?_; rintro _ we ⟨rfl, hbe⟩
                have hbe' : Below wr.heap.size wr we := HD0.out.trans (hbe.mono HD0.out.size)
                have HBE := hide hbe'
                go_wp2_with fail
                refine hKK _ _ ⟨⟨we, hbe'⟩, rfl⟩ (fun x => ∃ y : Calm.On wr.heap.size wr, x = y.1) (fun _ h => h) ⟨⟨we, hbe'⟩, rfl⟩ ?_
                repeat (go_big_quiet_step (fail))
                refine wpQuiet_nil ?_
                go_wp2_with fail
                go_meet
                case rel => exact ⟨rfl, HBE.out⟩
              case rest =>
                obtain ⟨rfl, hbc⟩ := hcut
                rename World => wc
                have HBC := hide hbc
                have HQc := hide (HQr.out.on hbc)
                cases hh : Gm.has G z with
                | false =>
                  go_wp2
                  go_ret
                  exact ⟨rfl, HQc.out.below⟩
                | true =>
                  have HHH := hide hh
                  have kx := (hbc.cell (p := ⟨g, o + i, none⟩) lgw).trans kx
                  have lgc : g < wc.heap.size := Nat.lt_of_lt_of_le lgw hbc.size
                  have HDc := hide (heap_keep hbc HD.out)
                  clear hbc hh HHS
                  have HgD : Hid (g < D) := hide (by have := HD3.out; have := HQ3.out.size; omega)
                  have HBwc := hide (HB.out.trans (HBC.out.mono HB.out.size))
                  have HOc := hide (HO.out.below HBC.out (Nat.le_refl _))
                  obtain ⟨Ax, cx, hvx, hxc1, hxc2, _⟩ := HO.out.form
                  subst hvx
                  obtain ⟨lx, hlx⟩ : ∃ n, n = (xs.take i).length := ⟨_, rfl⟩
                  rw [← hlx] at HDc HOc
                  have HLX : Hid ((xs.take i).length ≤ 1000000000000) := hide (by rw [List.length_take]; have := HX6.out; omega)
                  obtain ⟨mz, hmz⟩ : ∃ n, n = Gm.mxR (xs.take i) := ⟨_, rfl⟩
                  rw [← hmz] at HDc
                  have HMZ : Hid (Gm.mxR (xs.take (i + 1)) = max mz z) := hide (by rw [HTK.out, Gm.mxR_snoc, hmz])
                  have HDsz : Hid (D + 1 ≤ wc.heap.size) := hide (by have := (Array.getElem?_eq_some_iff.1 HDc.out).1; omega)
                  have HHA : Hid (∀ q ∈ xs.take (i + 1), Gm.has G q = true) := hide (fun q hq => by
                    rw [HTK.out] at hq
                    rcases List.mem_append.1 hq with hq | hq
                    · exact HA.out q hq
                    · rw [List.mem_singleton.1 hq]; exact HHH.out)
                  clear hlx hmz hxc1 hxc2 HD HO HA HB HHH
                  have HAB : Hid (∀ y : World, (wc.drew.alloc (.cells #[.int .i64 z] 3)).grownBy y (Value.slice Ax lx cx).ownBlock → y.heap[D]? = some (.cells #[.int .i64 lz, .slice Ax lx cx, .int .i64 mz] 40 (0, 0)) ∧ Below D wc y) := hide (by
                    have hOb : OwnI (wc.drew.alloc (.cells #[.int .i64 z] 3)) (D + 1) (.slice Ax lx cx) (xs.take i) := OwnI.alloc (w := wc.drew) HOc.out _
                    have hDb : (wc.drew.alloc (.cells #[.int .i64 z] 3)).heap[D]? = some (.cells #[.int .i64 lz, .slice Ax lx cx, .int .i64 mz] 40 (0, 0)) := (Below.heap_alloc wc.drew _ D (Array.getElem?_eq_some_iff.1 HDc.out).1).trans HDc.out
                    have hBb : Below D wc (wc.drew.alloc (.cells #[.int .i64 z] 3)) := (below_drewN (Below.refl _ _) 1).alloc (by have := HDsz.out; show D ≤ wc.heap.size; omega) _
                    intro y h
                    have hlt' := World.ownsRow.lt hOb
                    exact ⟨cells_row hDb hOb (by decide) h, hBb.grown h (by have := HDsz.out; show D ≤ (wc.drew.alloc _).heap.size; simp; show D ≤ wc.heap.size + 1; omega) (fun k e => by have := (hlt' k e).1; omega)⟩)
                  have HOA : Hid (OwnI (wc.drew.alloc (.cells #[.int .i64 z] 3)) (D + 1) (.slice Ax lx cx) (xs.take i)) := hide (OwnI.alloc (w := wc.drew) HOc.out _)
                  have HEA : Hid (D + 1 ≤ (wc.drew.alloc (.cells #[.int .i64 z] 3)).heap.size) := hide (by have := HDsz.out; simp; show D ≤ wc.heap.size; omega)
                  have HBd : Hid (Below D wc wc.drew) := hide (below_drewN (Below.refl _ _) 1)
                  have HBe : Hid (Below D wc (wc.drew.alloc (.cells #[.int .i64 z] 3))) := hide (HBd.out.alloc (by have := HDsz.out; show D ≤ wc.heap.size; omega) _)
                  have q4 := fun y : Calm.On D wc => (y.2.cell (p := ⟨g, o + i, none⟩) HgD.out).trans kx
                  have HKX := hide (fun (y : World) (h : Below D wc y) => (h.cell (p := ⟨g, o + i, none⟩) HgD.out).trans kx)
                  clear kx
                  go_upto_region 11 with fail
                  refine CalmN.region_tree (fun x => ∃ y : Calm.On D wc, x = y.1) (.two [0, 2, 3, 4, 5] 1 (.one [] 6 (.one [] 7 (.one [8] 9 (.fin [])))) 6 (.one [] 1 (.one [] 7 (.one [8] 9 (.fin []))))) (by kernel_rfl) (by kernel_rfl) (fun _ _ d _ _ h => by cases d <;> exact h) ⟨⟨wc.drew, HBd.out⟩, rfl⟩ ?_
                  simp only [CalmN.wpT, CalmN.wpSt, CalmN.pickOps, List.getElem?_toArray, List.getElem?_cons_zero, List.getElem?_cons_succ]
                  repeat (go_big_quiet_step (fail))
                  refine wpQuiet_nil ?_
                  clear q4
                  have e1 : wc.drew.cell? ⟨D, 1, none⟩ = some (.slice Ax lx cx) := (cell_of_row wc.drew _ 1 _ _ _ HDc.out).trans rfl
                  have HE1 : Hid ((wc.drew.alloc (.cells #[.int .i64 z] 3)).cell? ⟨D, 1, none⟩ = some (.slice Ax lx cx)) := hide ((cell_of_row _ _ 1 _ _ _ ((Below.heap_alloc wc.drew _ D (Array.getElem?_eq_some_iff.1 HDc.out).1).trans HDc.out)).trans rfl)
                  have HZA : Hid ((wc.drew.alloc (.cells #[.int .i64 z] 3)).cell? ⟨wc.heap.size, 0, none⟩ = some (.int .i64 z)) := hide (World.cell?_alloc_new wc.drew _ _ 0)
                  have HDDL := hide (Nat.le_refl D)
                  obtain ⟨wd, hwd⟩ : ∃ y, y = wc.drew := ⟨_, rfl⟩
                  have hws : wc.heap.size = wd.heap.size := by rw [hwd]; rfl
                  rw [← hwd] at HAB HOA HEA HBd HBe HE1 HZA e1 ⊢
                  rw [hws] at HZA
                  have ld : D < wd.heap.size := by have := HDsz.out; omega
                  have HLD := hide ld
                  clear hwd hws
                  refine ⟨?_, ?_⟩
                  · intro KK hKK
                    rw [if_pos (by rfl)]
                    go_wp2_with fail
                    refine hKK _ _ ⟨⟨_, HBd.out⟩, rfl⟩ (fun x => ∃ y : Calm.On D wc, x = y.1) (fun _ h => h) ⟨⟨_, HBd.out⟩, rfl⟩ ?_
                    refine wpQuiet_nil ?_
                    intro KK hKK
                    rw [if_pos (by rfl)]
                    go_wp2_with fail
                    refine hKK _ _ ⟨⟨_, HBe.out⟩, rfl⟩ (fun x => ∃ y : Calm.On D wc, x = y.1) (fun _ h => h) ⟨⟨_, HBe.out⟩, rfl⟩ ?_
                    refine wpQuiet_nil ?_
                    clear hKK e1
                    intro KK hKK
                    rw [if_pos (by rfl)]
                    refine apI_wp (.tmp 58) (.tmp 63) _ rfl Tryz.underlying33 (D + 1) (.slice Ax lx cx) (xs.take i) rfl HOA.out wd.heap.size 1 z rfl HZA.out HLX.out HEA.out ?_
                    intro v6 w6 ho6 hg6
                    rw [← HTK.out] at ho6
                    obtain ⟨hDx, hBx⟩ := HAB.out w6 hg6
                    have HDx := hide hDx
                    have HBx := hide hBx
                    have HO6 := hide ho6
                    obtain ⟨A6, c6, hv6, _, _, _⟩ := ho6.form
                    subst hv6
                    obtain ⟨n6, hn6⟩ : ∃ n, n = (xs.take (i + 1)).length := ⟨_, rfl⟩
                    rw [← hn6] at HO6 ⊢
                    have e1' : w6.cell? ⟨D, 1, none⟩ = some (.slice Ax lx cx) := (cell_of_row w6 _ 1 _ _ _ HDx.out).trans rfl
                    have f1' := frozen_of_row w6 _ 1 _ _ HDx.out
                    have l1' := (Array.getElem?_eq_some_iff.1 HDx.out).1
                    clear ho6 hg6 hn6 hDx hBx
                    refine hKK _ _ ⟨⟨w6, HBx.out⟩, rfl⟩ (fun x => ∃ y : Calm.On D wc, x = y.1) (fun _ h => h) ⟨⟨w6, HBx.out⟩, rfl⟩ ?_
                    go_frame
                    repeat (go_big_quiet_step (fail))
                    refine wpQuiet_nil ?_
                    have HB7 := hide (HBx.out.setCell (p := ⟨D, 1, none⟩) HDDL.out (.slice A6 n6 c6))
                    have HD7 := hide (heap_setCell_same w6 D 1 _ _ (.slice A6 n6 c6) HDx.out)
                    have HO7 : Hid (OwnI (w6.setCell ⟨D, 1, none⟩ (.slice A6 n6 c6)) (D + 1) (.slice A6 n6 c6) (xs.take (i + 1))) := hide (HO6.out.far (only_set (World.grownBy.refl w6 (some D)) 1 _) (Nat.lt_succ_self D))
                    intro KK hKK
                    rw [if_pos (by rfl)]
                    go_wp2_with fail
                    refine hKK _ _ ⟨⟨_, HB7.out⟩, rfl⟩ (fun x => ∃ y : Calm.On D wc, x = y.1) (fun _ h => h) ⟨⟨_, HB7.out⟩, rfl⟩ ?_
                    refine wpQuiet_nil ?_
                    obtain ⟨w7, hw7⟩ : ∃ y, y = w6.setCell ⟨D, 1, none⟩ (.slice A6 n6 c6) := ⟨_, rfl⟩
                    rw [← hw7] at HB7 HD7 HO7 ⊢
                    clear hw7 e1' f1' l1' hKK HOA HEA HZA HAB HBd HBe HE1 HO6 HDx HBx HLD
                    go_upto_region 12 with fail
                    have HB8 : Hid (Below D w7 w7.drew) := hide (below_drewN (Below.refl _ _) 1)
                    have q4 := fun y : Calm.On D w7 => HKX.out y.1 (HB7.out.trans y.2)
                    refine CalmN.region_tree (fun x => ∃ y : Calm.On D w7, x = y.1) (.one [0, 2, 3, 4, 5] 1 (.one [] 6 (.one [7] 8 (.fin [])))) (by kernel_rfl) (by kernel_rfl) (fun _ _ d _ _ h => by cases d <;> exact h) ⟨⟨w7.drew, HB8.out⟩, rfl⟩ ?_
                    simp only [CalmN.wpT, CalmN.wpSt, CalmN.pickOps, List.getElem?_toArray, List.getElem?_cons_zero, List.getElem?_cons_succ]
                    repeat (go_big_quiet_step (fail))
                    refine wpQuiet_nil ?_
                    clear q4
                    have HD8 : Hid (w7.drew.heap[D]? = some (.cells #[.int .i64 lz, .slice A6 n6 c6, .int .i64 mz] 40 (0, 0))) := HD7
                    have HO8 : Hid (OwnI w7.drew (D + 1) (.slice A6 n6 c6) (xs.take (i + 1))) := HO7
                    have HB9 := hide (HBwc.out.trans ((HB7.out.trans HB8.out).mono (Nat.le_of_eq HD3.out.symm)))
                    obtain ⟨w8, hw8⟩ : ∃ y, y = w7.drew := ⟨_, rfl⟩
                    rw [← hw8] at HB8 HD8 HO8 HB9 ⊢
                    clear hw8
                    have e2 : w8.cell? ⟨D, 2, none⟩ = some (.int .i64 mz) := (cell_of_row w8 _ 2 _ _ _ HD8.out).trans rfl
                    have f2 := frozen_of_row w8 _ 2 _ _ HD8.out
                    have l2 := (Array.getElem?_eq_some_iff.1 HD8.out).1
                    intro KK hKK
                    rw [if_pos (by rfl)]
                    go_wp2_with fail
                    refine hKK _ _ ⟨⟨_, HB8.out⟩, rfl⟩ (fun x => ∃ y : Calm.On D w7, x = y.1) (fun _ h => h) ⟨⟨_, HB8.out⟩, rfl⟩ ?_
                    refine wpQuiet_nil ?_
                    clear hKK
                    intro KK hKK
                    rw [if_pos (by rfl)]
                    go_wp2_with fail
                    obtain ⟨mm, hmm⟩ : ∃ m, m = max mz z := ⟨_, rfl⟩
                    rw [← hmm] at HMZ ⊢
                    clear hmm
                    refine hKK _ _ ⟨⟨_, HB8.out⟩, rfl⟩ (fun x => ∃ y : Calm.On D w7, x = y.1) (fun _ h => h) ⟨⟨_, HB8.out⟩, rfl⟩ ?_
                    repeat (go_big_quiet_step (fail))
                    refine wpQuiet_nil ?_
                    clear hKK
                    have HBA := hide (HB8.out.setCell (p := ⟨D, 2, none⟩) HDDL.out (.int .i64 mm))
                    have HDA := hide (heap_setCell_same w8 D 2 _ _ (.int .i64 mm) HD8.out)
                    have HOA : Hid (OwnI (w8.setCell ⟨D, 2, none⟩ (.int .i64 mm)) (D + 1) (.slice A6 n6 c6) (xs.take (i + 1))) := hide (HO8.out.far (only_set (World.grownBy.refl w8 (some D)) 2 _) (Nat.lt_succ_self D))
                    have HBB := hide (HB9.out.setCell (p := ⟨D, 2, none⟩) (Nat.le_of_eq HD3.out.symm) (.int .i64 mm))
                    intro KK hKK
                    rw [if_pos (by rfl)]
                    go_wp2_with fail
                    refine hKK _ _ ⟨⟨_, HBA.out⟩, rfl⟩ (fun x => ∃ y : Calm.On D w7, x = y.1) (fun _ h => h) ⟨⟨_, HBA.out⟩, rfl⟩ ?_
                    refine wpQuiet_nil ?_
                    obtain ⟨w9, hw9⟩ : ∃ y, y = w8.setCell ⟨D, 2, none⟩ (.int .i64 mm) := ⟨_, rfl⟩
                    rw [← hw9] at HDA HOA HBB ⊢
                    clear hw9 e2 f2 l2 hKK HBA
                    go_wp2
                    go_roundw
                    case rel => exact ⟨i + 1, _, hlt, by go_num, by rw [HMZ.out]; exact HDA, HOA, HBB, HHA⟩
                    case measure => simp [intOf]; omega
                  · intro KK hKK
                    rw [if_pos (by rfl)]
                    go_wp2_with fail
                    refine hKK _ _ ⟨⟨_, HBe.out⟩, rfl⟩ (fun x => ∃ y : Calm.On D wc, x = y.1) (fun _ h => h) ⟨⟨_, HBe.out⟩, rfl⟩ ?_
                    refine wpQuiet_nil ?_
                    intro KK hKK
                    rw [if_pos (by rfl)]
                    clear e1
                    have e1 := HE1.out
                    have ld2 : D < (wd.alloc (.cells #[.int .i64 z] 3)).heap.size := by simp; omega
                    clear ld
                    go_wp2_with fail
                    refine hKK _ _ ⟨⟨_, HBe.out⟩, rfl⟩ (fun x => ∃ y : Calm.On D wc, x = y.1) (fun _ h => h) ⟨⟨_, HBe.out⟩, rfl⟩ ?_
                    refine wpQuiet_nil ?_
                    clear hKK e1
                    intro KK hKK
                    rw [if_pos (by rfl)]
                    refine apI_wp (.tmp 58) (.tmp 63) _ rfl Tryz.underlying33 (D + 1) (.slice Ax lx cx) (xs.take i) rfl HOA.out wd.heap.size 1 z rfl HZA.out HLX.out HEA.out ?_
                    intro v6 w6 ho6 hg6
                    rw [← HTK.out] at ho6
                    obtain ⟨hDx, hBx⟩ := HAB.out w6 hg6
                    have HDx := hide hDx
                    have HBx := hide hBx
                    have HO6 := hide ho6
                    obtain ⟨A6, c6, hv6, _, _, _⟩ := ho6.form
                    subst hv6
                    obtain ⟨n6, hn6⟩ : ∃ n, n = (xs.take (i + 1)).length := ⟨_, rfl⟩
                    rw [← hn6] at HO6 ⊢
                    have e1' : w6.cell? ⟨D, 1, none⟩ = some (.slice Ax lx cx) := (cell_of_row w6 _ 1 _ _ _ HDx.out).trans rfl
                    have f1' := frozen_of_row w6 _ 1 _ _ HDx.out
                    have l1' := (Array.getElem?_eq_some_iff.1 HDx.out).1
                    clear ho6 hg6 hn6 hDx hBx
                    refine hKK _ _ ⟨⟨w6, HBx.out⟩, rfl⟩ (fun x => ∃ y : Calm.On D wc, x = y.1) (fun _ h => h) ⟨⟨w6, HBx.out⟩, rfl⟩ ?_
                    go_frame
                    repeat (go_big_quiet_step (fail))
                    refine wpQuiet_nil ?_
                    have HB7 := hide (HBx.out.setCell (p := ⟨D, 1, none⟩) HDDL.out (.slice A6 n6 c6))
                    have HD7 := hide (heap_setCell_same w6 D 1 _ _ (.slice A6 n6 c6) HDx.out)
                    have HO7 : Hid (OwnI (w6.setCell ⟨D, 1, none⟩ (.slice A6 n6 c6)) (D + 1) (.slice A6 n6 c6) (xs.take (i + 1))) := hide (HO6.out.far (only_set (World.grownBy.refl w6 (some D)) 1 _) (Nat.lt_succ_self D))
                    intro KK hKK
                    rw [if_pos (by rfl)]
                    go_wp2_with fail
                    refine hKK _ _ ⟨⟨_, HB7.out⟩, rfl⟩ (fun x => ∃ y : Calm.On D wc, x = y.1) (fun _ h => h) ⟨⟨_, HB7.out⟩, rfl⟩ ?_
                    refine wpQuiet_nil ?_
                    obtain ⟨w7, hw7⟩ : ∃ y, y = w6.setCell ⟨D, 1, none⟩ (.slice A6 n6 c6) := ⟨_, rfl⟩
                    rw [← hw7] at HB7 HD7 HO7 ⊢
                    clear hw7 e1' f1' l1' hKK HOA HEA HZA HAB HBd HBe HE1 HO6 HDx HBx HLD
                    go_upto_region 12 with fail
                    have HB8 : Hid (Below D w7 w7.drew) := hide (below_drewN (Below.refl _ _) 1)
                    have q4 := fun y : Calm.On D w7 => HKX.out y.1 (HB7.out.trans y.2)
                    refine CalmN.region_tree (fun x => ∃ y : Calm.On D w7, x = y.1) (.one [0, 2, 3, 4, 5] 1 (.one [] 6 (.one [7] 8 (.fin [])))) (by kernel_rfl) (by kernel_rfl) (fun _ _ d _ _ h => by cases d <;> exact h) ⟨⟨w7.drew, HB8.out⟩, rfl⟩ ?_
                    simp only [CalmN.wpT, CalmN.wpSt, CalmN.pickOps, List.getElem?_toArray, List.getElem?_cons_zero, List.getElem?_cons_succ]
                    repeat (go_big_quiet_step (fail))
                    refine wpQuiet_nil ?_
                    clear q4
                    have HD8 : Hid (w7.drew.heap[D]? = some (.cells #[.int .i64 lz, .slice A6 n6 c6, .int .i64 mz] 40 (0, 0))) := HD7
                    have HO8 : Hid (OwnI w7.drew (D + 1) (.slice A6 n6 c6) (xs.take (i + 1))) := HO7
                    have HB9 := hide (HBwc.out.trans ((HB7.out.trans HB8.out).mono (Nat.le_of_eq HD3.out.symm)))
                    obtain ⟨w8, hw8⟩ : ∃ y, y = w7.drew := ⟨_, rfl⟩
                    rw [← hw8] at HB8 HD8 HO8 HB9 ⊢
                    clear hw8
                    have e2 : w8.cell? ⟨D, 2, none⟩ = some (.int .i64 mz) := (cell_of_row w8 _ 2 _ _ _ HD8.out).trans rfl
                    have f2 := frozen_of_row w8 _ 2 _ _ HD8.out
                    have l2 := (Array.getElem?_eq_some_iff.1 HD8.out).1
                    intro KK hKK
                    rw [if_pos (by rfl)]
                    go_wp2_with fail
                    refine hKK _ _ ⟨⟨_, HB8.out⟩, rfl⟩ (fun x => ∃ y : Calm.On D w7, x = y.1) (fun _ h => h) ⟨⟨_, HB8.out⟩, rfl⟩ ?_
                    refine wpQuiet_nil ?_
                    clear hKK
                    intro KK hKK
                    rw [if_pos (by rfl)]
                    go_wp2_with fail
                    obtain ⟨mm, hmm⟩ : ∃ m, m = max mz z := ⟨_, rfl⟩
                    rw [← hmm] at HMZ ⊢
                    clear hmm
                    refine hKK _ _ ⟨⟨_, HB8.out⟩, rfl⟩ (fun x => ∃ y : Calm.On D w7, x = y.1) (fun _ h => h) ⟨⟨_, HB8.out⟩, rfl⟩ ?_
                    repeat (go_big_quiet_step (fail))
                    refine wpQuiet_nil ?_
                    clear hKK
                    have HBA := hide (HB8.out.setCell (p := ⟨D, 2, none⟩) HDDL.out (.int .i64 mm))
                    have HDA := hide (heap_setCell_same w8 D 2 _ _ (.int .i64 mm) HD8.out)
                    have HOA : Hid (OwnI (w8.setCell ⟨D, 2, none⟩ (.int .i64 mm)) (D + 1) (.slice A6 n6 c6) (xs.take (i + 1))) := hide (HO8.out.far (only_set (World.grownBy.refl w8 (some D)) 2 _) (Nat.lt_succ_self D))
                    have HBB := hide (HB9.out.setCell (p := ⟨D, 2, none⟩) (Nat.le_of_eq HD3.out.symm) (.int .i64 mm))
                    intro KK hKK
                    rw [if_pos (by rfl)]
                    go_wp2_with fail
                    refine hKK _ _ ⟨⟨_, HBA.out⟩, rfl⟩ (fun x => ∃ y : Calm.On D w7, x = y.1) (fun _ h => h) ⟨⟨_, HBA.out⟩, rfl⟩ ?_
                    refine wpQuiet_nil ?_
                    obtain ⟨w9, hw9⟩ : ∃ y, y = w8.setCell ⟨D, 2, none⟩ (.int .i64 mm) := ⟨_, rfl⟩
                    rw [← hw9] at HDA HOA HBB ⊢
                    clear hw9 e2 f2 l2 hKK HBA
                    go_wp2
                    go_roundw
                    case rel => exact ⟨i + 1, _, hlt, by go_num, by rw [HMZ.out]; exact HDA, HOA, HBB, HHA⟩
                    case measure => simp [intOf]; omega
            · obtain rfl : i = xs.length := by omega
              rw [List.take_length] at HD HO HA
              obtain ⟨x0, x1, x2, x3⟩ := HXC.out wr HQr.out
              have lwr : w.heap.size < wr.heap.size := HQr.out.size
              obtain ⟨mx, hmx⟩ : ∃ m, m = Gm.mxR xs := ⟨_, rfl⟩
              rw [← hmx] at HD
              have HMX := hide hmx
              clear hmx
              go_wp2_with fail
              refine (TC.out HGF.out wr HQr.out.below).mono ?_; rintro _ w5 ⟨gv, rfl, hog, hb5⟩
              have hDle : D + 1 ≤ wr.heap.size := (Array.getElem?_eq_some_iff.1 HD.out).1
              obtain ⟨vT, vN, vR, rfl, hoT, hoN, hoR⟩ := hog.less (Nat.le_of_succ_le hDle)
              have HQ5 := hide (HQr.out.on hb5)
              have HD5 := hide (heap_keep hb5 HD.out)
              have HO5 := hide (HO.out.below hb5 (Nat.le_refl _))
              have HB5 : Hid (Below D w3 w5) := hide ((HB.out.trans (hb5.mono HB.out.size)).mono (Nat.le_of_eq HD3.out))
              obtain ⟨AT5, cT5, rfl, _, _⟩ := own_form hoT
              obtain ⟨AN5, cN5, rfl, _, _⟩ := own_form hoN
              obtain ⟨AR5, cR5, rfl, _, _⟩ := ownrl_form hoR
              obtain ⟨Ax, cx, hvr, ry1, ry2, hrow⟩ := HO5.out.row (B := D) (Nat.le_succ D)
              subst hvr
              obtain ⟨H, hH⟩ : ∃ n, n = w5.heap.size := ⟨_, rfl⟩
              have hDH : D + 1 ≤ H := by have := hb5.size; omega
              obtain ⟨w6, hw6⟩ : ∃ y, y = w5.alloc (.cells #[.slice AT5 G.ts.length cT5, .slice AN5 G.ns.length cN5, .slice AR5 G.rs.length cR5, .int .i64 G.st] 26) := ⟨_, rfl⟩
              have HM6 : Hid (MoS w3 w6 D H #[.slice AT5 G.ts.length cT5, .slice AN5 G.ns.length cN5, .slice AR5 G.rs.length cR5, .int .i64 G.st] (.slice AT5 G.ts.length cT5) (.slice AN5 G.ns.length cN5) (.slice AR5 G.rs.length cR5) G.ts G.ns G.rs) := hide (by
                have hg := World.grownBy_alloc w5 (.cells #[.slice AT5 G.ts.length cT5, .slice AN5 G.ns.length cN5, .slice AR5 G.rs.length cR5, .int .i64 G.st] 26) .none
                rw [← hw6] at hg
                exact ⟨by rw [hw6, hH]; exact heap_alloc_new w5 _, World.ownsRow.kept hoT hg (none_away _), World.ownsRow.kept hoN hg (none_away _), (hoR.grown hg (fun g e => by cases e)).more hg.size, HB5.out.grown hg (by omega) (fun k e => by cases e), Nat.le_trans (by omega) hg.size, by omega⟩)
              have HQ6 : Hid (One w #[.slice A0 G.ts.length c0, .slice A1 G.ns.length c1, .slice A2 G.rs.length c2, .int .i64 G.st] w6) := hide (by rw [hw6]; exact HQ5.out.on ((Below.refl _ _).alloc (Nat.le_refl _) _))
              have HD6 : Hid (w6.heap[D]? = some (.cells #[.int .i64 lz, .slice Ax xs.length cx, .int .i64 mx] 40 (0, 0))) := hide (by rw [hw6]; exact (Below.heap_alloc w5 _ D (by omega)).trans HD5.out)
              have HR6 : Hid (RowI w6 D w6.heap.size Ax xs) := hide (by rw [hw6]; exact (hrow.grown (World.grownBy_alloc w5 _ none) (fun g e => by cases e)).more (by simp))
              clear hog hoT hoN hoR hrow x0 x1 x2 x3 lwr TC
              go_upto_region 14 with fail
              rw [← hw6, ← hH]
              have HHs : Hid (H < w6.heap.size) := hide (by rw [hw6]; simp; omega)
              have HH5 := hide hH
              have HDH := hide hDH
              clear hw6 hH hb5 hDle hDH
              have j2 : w6.cell? ⟨H, 2, none⟩ = some (.slice AR5 G.rs.length cR5) := (cell_of_row w6 _ 2 _ _ _ HM6.out.h).trans rfl
              have e0 : w6.cell? ⟨D, 0, none⟩ = some (.int .i64 lz) := (cell_of_row w6 _ 0 _ _ _ HD6.out).trans rfl
              have e1 : w6.cell? ⟨D, 1, none⟩ = some (.slice Ax xs.length cx) := (cell_of_row w6 _ 1 _ _ _ HD6.out).trans rfl
              have e2 : w6.cell? ⟨D, 2, none⟩ = some (.int .i64 mx) := (cell_of_row w6 _ 2 _ _ _ HD6.out).trans rfl
              have hl6 := HHs.out
              have hd6' : D < w6.heap.size := by have := HDH.out; omega
              have HMa := hide (HM6.out.alloc (.cells #[.int .i64 lz, .slice Ax xs.length cx, .int .i64 mx] 40))
              have HROW := hide ((HR6.out.grown (World.grownBy_alloc w6 (.cells #[.int .i64 lz, .slice Ax xs.length cx, .int .i64 mx] 40) none) (fun g e => by cases e)).more (show w6.heap.size ≤ (w6.alloc (.cells #[.int .i64 lz, .slice Ax xs.length cx, .int .i64 mx] 40)).heap.size by simp))
              have HNC : Hid (∀ j u, (rlC (⟨lz, xs, mx⟩, Ax, cx))[j]? = some u → (w6.alloc (.cells #[.int .i64 lz, .slice Ax xs.length cx, .int .i64 mx] 40)).cell? ⟨w6.heap.size, j, none⟩ = some u) := hide (fun j u hj => (new_cells w6 [.int .i64 lz, .slice Ax xs.length cx, .int .i64 mx] 40 j).trans hj)
              have HR12 := hide (And.intro ry1 ry2)
              have HRL5 : Hid (G.rs.length ≤ 1000000) := hide (by have := HL40.out; omega)
              have HQa := hide (HQ6.out.on ((Below.refl _ _).alloc (Nat.le_refl _) (.cells #[.int .i64 lz, .slice Ax xs.length cx, .int .i64 mx] 40)))
              clear ry1 ry2
              go_upto_region 15 with (at_builtin; (go_loud (refine apRl_arm rfl (.tmp 77) (.tmp 79) _ rfl Tryz.underlying24 D _ (.slice AR5 G.rs.length cR5) _ rfl HMa.out.r _ _ (⟨lz, xs, mx⟩, Ax, cx) rfl HNC.out ⟨HR12.out.1, HR12.out.2, HROW.out⟩ HRL5.out HMa.out.hs (Nat.le_refl _) ?_)); intro v7 w7 ho7 hg7; have HG7 := hide hg7; have HM7 := hide (HMa.out.putR ho7 hg7); obtain ⟨A6, c6, rfl, _, _⟩ := ownrl_form ho7; obtain ⟨n6, hn6⟩ : ∃ n, n = (G.rs ++ [(⟨lz, xs, mx⟩ : Gm.Rl)]).length := ⟨_, rfl⟩; have HN6 := hide hn6; rw [← hn6] at HM7 ⊢; have j2' := cell_of_row w7 _ 2 _ _ _ HM7.out.h; have f2' := frozen_of_row w7 _ 2 _ _ HM7.out.h; have lh' := (Array.getElem?_eq_some_iff.1 HM7.out.h).1; have HM8 := hide (HM7.out.setH 2 (.slice A6 n6 c6)); clear ho7 hg7 hn6)
              have HQ8 : Hid (One w #[.slice A0 G.ts.length c0, .slice A1 G.ns.length c1, .slice A2 G.rs.length c2, .int .i64 G.st] (w7.setCell ⟨H, 2, none⟩ (.slice A6 n6 c6))) := hide (HQ3.out.on (HM8.out.w.mono (Nat.le_of_eq HD3.out.symm)))
              have HH8 : Hid ((w7.setCell ⟨H, 2, none⟩ (.slice A6 n6 c6)).heap[H]? = some (.cells #[.slice AT5 G.ts.length cT5, .slice AN5 G.ns.length cN5, .slice A6 n6 c6, .int .i64 G.st] 26 (0, 0))) := hide HM8.out.h
              have HGR : Hid (RdGr (w7.setCell ⟨H, 2, none⟩ (.slice A6 n6 c6)) (w7.setCell ⟨H, 2, none⟩ (.slice A6 n6 c6)).heap.size (.agg #[.slice AT5 G.ts.length cT5, .slice AN5 G.ns.length cN5, .slice A6 n6 c6, .int .i64 G.st]) (Gm.addR G ⟨lz, xs, mx⟩)) := hide (HM8.out.rd G.st)
              obtain ⟨w8, hw8⟩ : ∃ y, y = w7.setCell ⟨H, 2, none⟩ (.slice A6 n6 c6) := ⟨_, rfl⟩
              rw [← hw8] at HQ8 HH8 HGR ⊢
              have HFA : Hid (Gm.Fit (Gm.addR G ⟨lz, xs, mx⟩)) := hide (Gm.add_fit HFT.out (by have := HLZ.out; have := HN16.out; have := HNN.out; unfold Gm.In; omega) (by rw [HMX.out]; exact Gm.mx_in HIN.out) HIN.out)
              have HRA : Hid (Gm.right (Gm.addR G ⟨lz, xs, mx⟩) = true) := hide (by rw [HMX.out]; exact Gm.right_ok.2 (Gm.add_ok HOK.out HLZ.out.1 (by have := HLZ.out.2; have := HNN.out; omega) HL40.out HX6.out HA.out))
              clear hw8 j2 e0 e1 e2 hl6 hd6' j2' f2' lh' HM6 HMa HM7 HM8 HROW HNC HR12 HRL5 HQa HG7 HHs HH5 HDH HD5 HO5 HB5 HQ5 HQ6 HD6 HR6 HD HO HB HRI HIN HX6 HL40 HMX HLZ
              have T1 := hide (fun (x : World) (h : Below w.heap.size w x) => (show Calls _ _ _ _ (RowT _ _) from (TN.out x h).mono fun e w' k => k.1 rfl))
              have T3 := hide (fun (x : World) (h : Below w.heap.size w x) => (show Calls _ _ _ _ (RowT _ _) from (TP.out x h).mono fun e w' k => k.1 rfl))
              have T5 := hide (fun (x : World) (h : Below w.heap.size w x) => (show Calls _ _ _ _ (RowT _ _) from (TQ.out x h).mono fun e w' k => k.1 rfl))
              have T2 := hide (fun (x : World) (h : Below w8.heap.size w8 x) => (show Calls _ _ _ _ (RowT _ _) from (nullable_any _ _ w8.heap.size x (HGR.out.below h (Nat.le_refl _)) HFA.out h.size).mono fun e w' k => k.1 HRA.out))
              have T4 := hide (fun (x : World) (h : Below w8.heap.size w8 x) => (show Calls _ _ _ _ (RowT _ _) from (productive_any _ _ w8.heap.size x (HGR.out.below h (Nat.le_refl _)) HFA.out h.size).mono fun e w' k => k.1 HRA.out))
              have T6 := hide (fun (x : World) (h : Below w8.heap.size w8 x) => (show Calls _ _ _ _ (RowT _ _) from (reachable_any _ _ w8.heap.size x (HGR.out.below h (Nat.le_refl _)) HFA.out h.size).mono fun e w' k => k.1 HRA.out))
              have HAR := hide (fun i hi => Gm.add_rows G ⟨lz, xs, mx⟩ i hi)
              clear TN TP TQ
              obtain ⟨R1, hR1⟩ : ∃ x, x = Gm.gn false G.rs G.ns.length := ⟨_, rfl⟩
              obtain ⟨R2, hR2⟩ : ∃ x, x = Gm.gn false (Gm.addR G ⟨lz, xs, mx⟩).rs G.ns.length := ⟨_, rfl⟩
              obtain ⟨R3, hR3⟩ : ∃ x, x = Gm.gn true G.rs G.ns.length := ⟨_, rfl⟩
              obtain ⟨R4, hR4⟩ : ∃ x, x = Gm.gn true (Gm.addR G ⟨lz, xs, mx⟩).rs G.ns.length := ⟨_, rfl⟩
              obtain ⟨R5, hR5⟩ : ∃ x, x = Gm.rc G := ⟨_, rfl⟩
              obtain ⟨R6, hR6⟩ : ∃ x, x = Gm.rc (Gm.addR G ⟨lz, xs, mx⟩) := ⟨_, rfl⟩
              have HL1 : Hid (R1.length = G.ns.length) := hide (by rw [hR1, Gm.gn_len])
              have HL2 : Hid (R2.length = G.ns.length) := hide (by rw [hR2, Gm.gn_len])
              have HL3 : Hid (R3.length = G.ns.length) := hide (by rw [hR3, Gm.gn_len])
              have HL4 : Hid (R4.length = G.ns.length) := hide (by rw [hR4, Gm.gn_len])
              have HL5 : Hid (R5.length = G.ns.length) := hide (by rw [hR5, Gm.rc_len])
              have HL6 : Hid (R6.length = G.ns.length) := hide (by rw [hR6, Gm.rc_len]; rfl)
              rw [show (Gm.addR G ⟨lz, xs, mx⟩).ns.length = G.ns.length from rfl] at T2 T4
              rw [← hR1] at T1
              rw [← hR2] at T2
              rw [← hR3] at T3
              rw [← hR4] at T4
              rw [← hR5] at T5
              rw [← hR6] at T6
              rw [← hR1, ← hR2, ← hR3, ← hR4, ← hR5, ← hR6] at HAR
              clear hR1 hR2 hR3 hR4 hR5 hR6 HGR HFA HRA HFT HOK
              have lh8 : H < w8.heap.size := (Array.getElem?_eq_some_iff.1 HH8.out).1
              have HBs := hide (Below.refl w8.heap.size w8)
              obtain ⟨nn2, hn2⟩ : ∃ n : Nat, n = G.ns.length := ⟨_, rfl⟩
              rw [← hn2] at HL1 HL2 HL3 HL4 HL5 HL6 HN16
              have HQs := hide HQ8.out
              have HHs := hide HH8.out
              have HN2 := hide hn2
              clear hn2
              go_cut [10, 11] (fun va vb wx => ∃ ga gb, va = .slice (some ⟨ga, 0, none⟩) nn2 nn2 ∧ vb = .slice (some ⟨gb, 0, none⟩) nn2 nn2 ∧ UBO wx ga R1 ∧ UBO wx gb R2 ∧ Below w8.heap.size w8 wx)
              case first =>
                have q0 := fun y : Calm.On w8.heap.size w8 => ((HQs.out.on y.2).c 0 _ rfl)
                have q1 := fun y : Calm.On w8.heap.size w8 => ((HQs.out.on y.2).c 1 _ rfl)
                have q2 := fun y : Calm.On w8.heap.size w8 => ((HQs.out.on y.2).c 2 _ rfl)
                have q3 := fun y : Calm.On w8.heap.size w8 => ((HQs.out.on y.2).c 3 _ rfl)
                have r0 := fun y : Calm.On w8.heap.size w8 => (cell_of_row y.1 _ 0 _ _ _ (heap_keep y.2 HHs.out)).trans rfl
                have r1 := fun y : Calm.On w8.heap.size w8 => (cell_of_row y.1 _ 1 _ _ _ (heap_keep y.2 HHs.out)).trans rfl
                have r2 := fun y : Calm.On w8.heap.size w8 => (cell_of_row y.1 _ 2 _ _ _ (heap_keep y.2 HHs.out)).trans rfl
                have r3 := fun y : Calm.On w8.heap.size w8 => (cell_of_row y.1 _ 3 _ _ _ (heap_keep y.2 HHs.out)).trans rfl
                have HD0 : Hid (Below w8.heap.size w8 w8.drew) := hide (below_drewN (Below.refl _ _) 1)
                refine CalmN.region_tree (fun x => ∃ y : Calm.On w8.heap.size w8, x = y.1) (.one [0, 2] 1 (.one [] 3 (.fin [4, 5]))) (by kernel_rfl) (by kernel_rfl) (fun _ _ d _ _ h => by cases d <;> exact h) ⟨⟨w8.drew, HD0.out⟩, rfl⟩ ?_
                simp only [CalmN.wpT, CalmN.wpSt, CalmN.pickOps, List.getElem?_toArray, List.getElem?_cons_zero, List.getElem?_cons_succ]
                repeat (go_big_quiet_step (fail))
                refine wpQuiet_nil ?_
                clear q0 q1 q2 q3 r0 r1 r2 r3
                obtain ⟨wd, hwd⟩ : ∃ y, y = w8.drew := ⟨_, rfl⟩
                rw [← hwd] at HD0 ⊢
                clear hwd
                intro KK hKK
                rw [if_pos (by rfl)]
                go_wp2_with fail
                refine (T1.out wd (HQs.out.on HD0.out).below).mono ?_; rintro _ w3x ⟨ga, rfl, hga, hua, hb3⟩
                rw [HL1.out]
                have hb3' : Below w8.heap.size w8 w3x := HD0.out.trans (hb3.mono HD0.out.size)
                have HW3 := hide hb3'
                go_wp2_with fail
                refine hKK _ _ ⟨⟨w3x, hb3'⟩, rfl⟩ (fun x => ∃ y : Calm.On w8.heap.size w8, x = y.1) (fun _ h => h) ⟨⟨w3x, hb3'⟩, rfl⟩ ?_
                refine wpQuiet_nil ?_
                intro KK hKK
                rw [if_pos (by rfl)]
                go_wp2_with fail
                refine (T2.out w3x (HBs.out.trans (HW3.out.mono HBs.out.size))).mono ?_; rintro _ w4x ⟨gb, rfl, hgb, hub, hb4⟩
                rw [HL2.out]
                have hb4' : Below w8.heap.size w8 w4x := hb3'.trans (hb4.mono hb3'.size)
                go_wp2_with fail
                refine hKK _ _ ⟨⟨w4x, hb4'⟩, rfl⟩ (fun x => ∃ y : Calm.On w8.heap.size w8, x = y.1) (fun _ h => h) ⟨⟨w4x, hb4'⟩, rfl⟩ ?_
                repeat (go_big_quiet_step (fail))
                refine wpQuiet_nil ?_
                go_wp2_with fail
                go_meet
                case rel => exact ⟨ga, gb, rfl, rfl, hua.below hb4 hua.lt, hub, hb4'⟩
              case rest =>
                obtain ⟨g1, g2, rfl, rfl, hua, hub, hbx⟩ := hcut
                rename World => wp
                have U1 := hide hua
                have U2 := hide hub
                have HQs := hide (HQs.out.on hbx)
                have HHs := hide (heap_keep hbx HHs.out)
                have HBs := hide (HBs.out.trans (hbx.mono HBs.out.size))
                clear hua hub hbx
                go_upto_region 16 with fail
                go_cut [12, 13] (fun va vb wx => ∃ ga gb, va = .slice (some ⟨ga, 0, none⟩) nn2 nn2 ∧ vb = .slice (some ⟨gb, 0, none⟩) nn2 nn2 ∧ UBO wx ga R3 ∧ UBO wx gb R4 ∧ Below wp.heap.size wp wx)
                case first =>
                  have q0 := fun y : Calm.On wp.heap.size wp => ((HQs.out.on y.2).c 0 _ rfl)
                  have q1 := fun y : Calm.On wp.heap.size wp => ((HQs.out.on y.2).c 1 _ rfl)
                  have q2 := fun y : Calm.On wp.heap.size wp => ((HQs.out.on y.2).c 2 _ rfl)
                  have q3 := fun y : Calm.On wp.heap.size wp => ((HQs.out.on y.2).c 3 _ rfl)
                  have r0 := fun y : Calm.On wp.heap.size wp => (cell_of_row y.1 _ 0 _ _ _ (heap_keep y.2 HHs.out)).trans rfl
                  have r1 := fun y : Calm.On wp.heap.size wp => (cell_of_row y.1 _ 1 _ _ _ (heap_keep y.2 HHs.out)).trans rfl
                  have r2 := fun y : Calm.On wp.heap.size wp => (cell_of_row y.1 _ 2 _ _ _ (heap_keep y.2 HHs.out)).trans rfl
                  have r3 := fun y : Calm.On wp.heap.size wp => (cell_of_row y.1 _ 3 _ _ _ (heap_keep y.2 HHs.out)).trans rfl
                  have HD0 : Hid (Below wp.heap.size wp wp.drew) := hide (below_drewN (Below.refl _ _) 1)
                  refine CalmN.region_tree (fun x => ∃ y : Calm.On wp.heap.size wp, x = y.1) (.one [0, 2] 1 (.one [] 3 (.fin [4, 5]))) (by kernel_rfl) (by kernel_rfl) (fun _ _ d _ _ h => by cases d <;> exact h) ⟨⟨wp.drew, HD0.out⟩, rfl⟩ ?_
                  simp only [CalmN.wpT, CalmN.wpSt, CalmN.pickOps, List.getElem?_toArray, List.getElem?_cons_zero, List.getElem?_cons_succ]
                  repeat (go_big_quiet_step (fail))
                  refine wpQuiet_nil ?_
                  clear q0 q1 q2 q3 r0 r1 r2 r3
                  obtain ⟨wd, hwd⟩ : ∃ y, y = wp.drew := ⟨_, rfl⟩
                  rw [← hwd] at HD0 ⊢
                  clear hwd
                  intro KK hKK
                  rw [if_pos (by rfl)]
                  go_wp2_with fail
                  refine (T3.out wd (HQs.out.on HD0.out).below).mono ?_; rintro _ w3x ⟨ga, rfl, hga, hua, hb3⟩
                  rw [HL3.out]
                  have hb3' : Below wp.heap.size wp w3x := HD0.out.trans (hb3.mono HD0.out.size)
                  have HW3 := hide hb3'
                  go_wp2_with fail
                  refine hKK _ _ ⟨⟨w3x, hb3'⟩, rfl⟩ (fun x => ∃ y : Calm.On wp.heap.size wp, x = y.1) (fun _ h => h) ⟨⟨w3x, hb3'⟩, rfl⟩ ?_
                  refine wpQuiet_nil ?_
                  intro KK hKK
                  rw [if_pos (by rfl)]
                  go_wp2_with fail
                  refine (T4.out w3x (HBs.out.trans (HW3.out.mono HBs.out.size))).mono ?_; rintro _ w4x ⟨gb, rfl, hgb, hub, hb4⟩
                  rw [HL4.out]
                  have hb4' : Below wp.heap.size wp w4x := hb3'.trans (hb4.mono hb3'.size)
                  go_wp2_with fail
                  refine hKK _ _ ⟨⟨w4x, hb4'⟩, rfl⟩ (fun x => ∃ y : Calm.On wp.heap.size wp, x = y.1) (fun _ h => h) ⟨⟨w4x, hb4'⟩, rfl⟩ ?_
                  repeat (go_big_quiet_step (fail))
                  refine wpQuiet_nil ?_
                  go_wp2_with fail
                  go_meet
                  case rel => exact ⟨ga, gb, rfl, rfl, hua.below hb4 hua.lt, hub, hb4'⟩
                case rest =>
                  obtain ⟨g3, g4, rfl, rfl, hua, hub, hbx⟩ := hcut
                  rename World => wq
                  have U3 := hide hua
                  have U4 := hide hub
                  have U1 := hide (U1.out.below hbx U1.out.lt)
                  have U2 := hide (U2.out.below hbx U2.out.lt)
                  have HQs := hide (HQs.out.on hbx)
                  have HHs := hide (heap_keep hbx HHs.out)
                  have HBs := hide (HBs.out.trans (hbx.mono HBs.out.size))
                  clear hua hub hbx
                  go_upto_region 17 with fail
                  go_cut [14, 15] (fun va vb wx => ∃ ga gb, va = .slice (some ⟨ga, 0, none⟩) nn2 nn2 ∧ vb = .slice (some ⟨gb, 0, none⟩) nn2 nn2 ∧ UBO wx ga R5 ∧ UBO wx gb R6 ∧ Below wq.heap.size wq wx)
                  case first =>
                    have q0 := fun y : Calm.On wq.heap.size wq => ((HQs.out.on y.2).c 0 _ rfl)
                    have q1 := fun y : Calm.On wq.heap.size wq => ((HQs.out.on y.2).c 1 _ rfl)
                    have q2 := fun y : Calm.On wq.heap.size wq => ((HQs.out.on y.2).c 2 _ rfl)
                    have q3 := fun y : Calm.On wq.heap.size wq => ((HQs.out.on y.2).c 3 _ rfl)
                    have r0 := fun y : Calm.On wq.heap.size wq => (cell_of_row y.1 _ 0 _ _ _ (heap_keep y.2 HHs.out)).trans rfl
                    have r1 := fun y : Calm.On wq.heap.size wq => (cell_of_row y.1 _ 1 _ _ _ (heap_keep y.2 HHs.out)).trans rfl
                    have r2 := fun y : Calm.On wq.heap.size wq => (cell_of_row y.1 _ 2 _ _ _ (heap_keep y.2 HHs.out)).trans rfl
                    have r3 := fun y : Calm.On wq.heap.size wq => (cell_of_row y.1 _ 3 _ _ _ (heap_keep y.2 HHs.out)).trans rfl
                    have HD0 : Hid (Below wq.heap.size wq wq.drew) := hide (below_drewN (Below.refl _ _) 1)
                    refine CalmN.region_tree (fun x => ∃ y : Calm.On wq.heap.size wq, x = y.1) (.one [0, 2] 1 (.one [] 3 (.fin [4, 5]))) (by kernel_rfl) (by kernel_rfl) (fun _ _ d _ _ h => by cases d <;> exact h) ⟨⟨wq.drew, HD0.out⟩, rfl⟩ ?_
                    simp only [CalmN.wpT, CalmN.wpSt, CalmN.pickOps, List.getElem?_toArray, List.getElem?_cons_zero, List.getElem?_cons_succ]
                    repeat (go_big_quiet_step (fail))
                    refine wpQuiet_nil ?_
                    clear q0 q1 q2 q3 r0 r1 r2 r3
                    obtain ⟨wd, hwd⟩ : ∃ y, y = wq.drew := ⟨_, rfl⟩
                    rw [← hwd] at HD0 ⊢
                    clear hwd
                    intro KK hKK
                    rw [if_pos (by rfl)]
                    go_wp2_with fail
                    refine (T5.out wd (HQs.out.on HD0.out).below).mono ?_; rintro _ w3x ⟨ga, rfl, hga, hua, hb3⟩
                    rw [HL5.out]
                    have hb3' : Below wq.heap.size wq w3x := HD0.out.trans (hb3.mono HD0.out.size)
                    have HW3 := hide hb3'
                    go_wp2_with fail
                    refine hKK _ _ ⟨⟨w3x, hb3'⟩, rfl⟩ (fun x => ∃ y : Calm.On wq.heap.size wq, x = y.1) (fun _ h => h) ⟨⟨w3x, hb3'⟩, rfl⟩ ?_
                    refine wpQuiet_nil ?_
                    intro KK hKK
                    rw [if_pos (by rfl)]
                    go_wp2_with fail
                    refine (T6.out w3x (HBs.out.trans (HW3.out.mono HBs.out.size))).mono ?_; rintro _ w4x ⟨gb, rfl, hgb, hub, hb4⟩
                    rw [HL6.out]
                    have hb4' : Below wq.heap.size wq w4x := hb3'.trans (hb4.mono hb3'.size)
                    go_wp2_with fail
                    refine hKK _ _ ⟨⟨w4x, hb4'⟩, rfl⟩ (fun x => ∃ y : Calm.On wq.heap.size wq, x = y.1) (fun _ h => h) ⟨⟨w4x, hb4'⟩, rfl⟩ ?_
                    repeat (go_big_quiet_step (fail))
                    refine wpQuiet_nil ?_
                    go_wp2_with fail
                    go_meet
                    case rel => exact ⟨ga, gb, rfl, rfl, hua.below hb4 hua.lt, hub, hb4'⟩
                  case rest =>
                    obtain ⟨g5, g6, rfl, rfl, hua, hub, hbx⟩ := hcut
                    rename World => wz
                    have U5 := hide hua
                    have U6 := hide hub
                    have U1 := hide (U1.out.below hbx U1.out.lt)
                    have U2 := hide (U2.out.below hbx U2.out.lt)
                    have U3 := hide (U3.out.below hbx U3.out.lt)
                    have U4 := hide (U4.out.below hbx U4.out.lt)
                    have HQs := hide (HQs.out.on hbx)
                    have HHs := hide (heap_keep hbx HHs.out)
                    have HBs := hide (HBs.out.trans (hbx.mono HBs.out.size))
                    clear hua hub hbx
                    have q1 := HQs.out.c 1 _ rfl
                    rw [← HN2.out] at q1
                    have lz2 : w.heap.size < wz.heap.size := HQs.out.size
                    have hn3 : (nn2 : Int) ≤ 9223372036854775807 := by have := HN16.out; omega
                    clear T1 T2 T3 T4 T5 T6 HH8 HQ8
                    go_upto_region 21 with fail
                    clear q1
                    go_loopw [16] (fun vi wx => ∃ i : Nat, i ≤ nn2 ∧ vi = .int .i64 i ∧ wx = wz) (fun vi _ => nn2 - (intOf vi).toNat)
                    case atStart => exact ⟨0, Nat.zero_le _, rfl, rfl⟩
                    case round =>
                      obtain ⟨i, hi, rfl, hwx⟩ := hrel
                      rename World => wx
                      subst hwx
                      by_cases hlt : i < nn2
                      · have k1 := U1.out.cell i (by rw [HL1.out]; exact hlt)
                        have k2 := U2.out.cell i (by rw [HL2.out]; exact hlt)
                        have k3 := U3.out.cell i (by rw [HL3.out]; exact hlt)
                        have k4 := U4.out.cell i (by rw [HL4.out]; exact hlt)
                        have k5 := U5.out.cell i (by rw [HL5.out]; exact hlt)
                        have k6 := U6.out.cell i (by rw [HL6.out]; exact hlt)
                        obtain ⟨i1, i2, i3, i4⟩ := HAR.out i (by rw [← HN2.out]; exact hlt)
                        have b1 := block_lt_of_cell k1
                        have b2 := block_lt_of_cell k2
                        have b3 := block_lt_of_cell k3
                        have b4 := block_lt_of_cell k4
                        have b5 := block_lt_of_cell k5
                        have b6 := block_lt_of_cell k6
                        generalize R1.getD i false = t1 at *
                        generalize R2.getD i false = t2 at *
                        generalize R3.getD i false = t3 at *
                        generalize R4.getD i false = t4 at *
                        generalize R5.getD i false = t5 at *
                        generalize R6.getD i false = t6 at *
                        have I1 := hide i1
                        have I2 := hide i2
                        have I3 := hide i3
                        have I4 := hide i4
                        clear i1 i2 i3 i4
                        cases t1 with
                        | true =>
                          obtain rfl : t2 = true := I1.out rfl
                          obtain rfl : t3 = true := I4.out rfl
                          obtain rfl : t4 = true := I2.out rfl
                          cases t5 with
                          | true =>
                            obtain rfl : t6 = true := I3.out rfl
                            go_wp2
                            go_roundw
                            case rel => exact ⟨i + 1, hlt, by go_num, trivial⟩
                            case measure => simp [intOf]; omega
                          | false =>
                            go_wp2
                            go_roundw
                            case rel => exact ⟨i + 1, hlt, by go_num, trivial⟩
                            case measure => simp [intOf]; omega
                        | false =>
                          cases t3 with
                          | true =>
                            obtain rfl : t4 = true := I2.out rfl
                            cases t5 with
                            | true =>
                              obtain rfl : t6 = true := I3.out rfl
                              go_wp2
                              go_roundw
                              case rel => exact ⟨i + 1, hlt, by go_num, trivial⟩
                              case measure => simp [intOf]; omega
                            | false =>
                              go_wp2
                              go_roundw
                              case rel => exact ⟨i + 1, hlt, by go_num, trivial⟩
                              case measure => simp [intOf]; omega
                          | false =>
                            cases t5 with
                            | true =>
                              obtain rfl : t6 = true := I3.out rfl
                              go_wp2
                              go_roundw
                              case rel => exact ⟨i + 1, hlt, by go_num, trivial⟩
                              case measure => simp [intOf]; omega
                            | false =>
                              go_wp2
                              go_roundw
                              case rel => exact ⟨i + 1, hlt, by go_num, trivial⟩
                              case measure => simp [intOf]; omega
                      · obtain rfl : i = nn2 := by omega
                        go_wp2
                        go_ret
                        exact ⟨rfl, HQs.out.below⟩
end Go.Proofs.YtfiijndmlmddbaaGreat

namespace Go.Proofs.YtfiijndmlmddbaaGreat
open Go.ChangeShapes Go.WideShapes Go.Deep Go.RowKit Go.Joins

section
variable {H : Type} {enc : TypeId × Value → H} {P : Program} {w : World} {base : Nat} {spare : Nat → Bool} {held : Bool}

/-- A slice of structs of one-cell fields: each field of each element. -/
theorem open_rows {t e : TypeId} {fs : Array Field} {fuel : Nat} {cs : List Value} {x : DataW H × List MemPlace} (ht : P.underlying t = some (.slice e)) (he : P.underlying e = some (.struct fs))
    (hone : oneCellFields P fs = true) (hC : P.cellsOf e = fs.size) (h : DataW.trod enc P w base spare held fuel t cs = some x) :
    cs = [.slice none 0 0] ∨
    ∃ (a : Addr) (len cap : Nat), cs = [.slice (some a) len cap] ∧ len ≤ cap ∧ cap ≤ maxLen ∧
      ∀ i, i < len → ∀ (j : Nat) (f : Field), fs[j]? = some f → ∃ (v : Value) (y : DataW H × List MemPlace) (n : Nat), w.cell? (a.add (i * fs.size + j)) = some v ∧ DataW.trod enc P w base spare held n f.type [v] = some y := by
  rcases open_slice ht h with h0 | ⟨a, len, cap, m, n, D, Pl, hcs, hb, hl, hm, hmm, hx, hi⟩
  · exact .inl h0.1
  · refine .inr ⟨a, len, cap, hcs, hl, hm, fun i him j f hj => ?_⟩
    obtain ⟨cs', hc, ht'⟩ := hi i (by rw [hmm]; split <;> omega)
    rw [hC] at hc
    obtain ⟨ys, n', hn', hy, hlen, hyl, hf⟩ := DataW.trod_struct he ht'
    obtain ⟨_, hcl, hat⟩ := World.cells?_some hc
    obtain ⟨ho, hk⟩ := hone_of hone j f hj
    have hjl : j < fs.size := (Array.getElem?_eq_some_iff.1 hj).1
    have hcell := hat j hjl
    have hv : cs'[j]? = some (cs'[j]'(by omega)) := List.getElem?_eq_getElem (by omega)
    have h1 := hf j f hj
    rw [ho, hk] at h1
    have hone' : (cs'.drop j).take 1 = [cs'[j]'(by omega)] := by
      rw [List.drop_eq_getElem_cons (by omega)]
      rfl
    rw [hone'] at h1
    have hys : ys[j]? = some (ys[j]'(by omega)) := List.getElem?_eq_getElem (by omega)
    refine ⟨_, _, n', ?_, h1.trans hys⟩
    rw [← Go.Deep.add_add, hcell, hv]

/-- An address from which cells are read has no spot of its own. -/
theorem plain_addr {a : Addr} {k : Nat} {v : Value} (h : w.cell? (a.add k) = some v) (hk : k = 0) : a = ⟨a.block, a.off, none⟩ := by
  subst hk
  obtain ⟨b, o, s⟩ := a
  obtain rfl : s = none := by simpa [Addr.add] using World.cell?_spot h
  rfl

theorem open_tms {t e : TypeId} {f0 f1 f2 : Field} {fuel : Nat} {cs : List Value} {x : DataW H × List MemPlace} (ht : P.underlying t = some (.slice e)) (he : P.underlying e = some (.struct #[f0, f1, f2]))
    (hone : oneCellFields P #[f0, f1, f2] = true) (hC : P.cellsOf e = 3) (h0 : P.underlying f0.type = some .string) (h1 : P.underlying f1.type = some (.int .i64)) (h2 : P.underlying f2.type = some (.int .i64)) (h : DataW.trod enc P w base spare held fuel t cs = some x) :
    ∃ A n c ts, cs = [.slice A n c] ∧ n = ts.length ∧ n ≤ c ∧ c ≤ 9223372036854775807 ∧ RdTm w w.heap.size A ts ∧ ∀ x ∈ ts, K.Tx x.nm ∧ Gm.In x.lv ∧ Gm.In x.wy := by
  rcases open_rows ht he hone hC h with rfl | ⟨a, len, cap, rfl, hl, hm, hi⟩
  · exact ⟨none, 0, 0, [], rfl, rfl, Nat.le_refl _, by omega, fun h => absurd rfl h, fun x hx => by simp at hx⟩
  · have hp : ∀ i, i < len → ∃ t : Gm.Tm, (w.cell? (a.add (i * 3)) = some (.string (K.str t.nm)) ∧ w.cell? (a.add (i * 3 + 1)) = some (.int .i64 t.lv) ∧ w.cell? (a.add (i * 3 + 2)) = some (.int .i64 t.wy)) ∧ K.Tx t.nm ∧ Gm.In t.lv ∧ Gm.In t.wy := fun i hil => by
      obtain ⟨v0, y0, n0, c0, t0⟩ := hi i hil 0 f0 rfl
      obtain ⟨v1, y1, n1, c1, t1⟩ := hi i hil 1 f1 rfl
      obtain ⟨v2, y2, n2, c2, t2⟩ := hi i hil 2 f2 rfl
      obtain ⟨s, e0, _, hs0⟩ := DataW.trod_string h0 t0
      obtain ⟨z1, e1, _, w1⟩ := DataW.trod_int h1 t1
      obtain ⟨z2, e2, _, w2⟩ := DataW.trod_int h2 t2
      injection e0 with e0; injection e1 with e1; injection e2 with e2
      subst e0 e1 e2
      obtain ⟨l, hl, rfl⟩ := K.txt s hs0
      exact ⟨⟨l, z1, z2⟩, ⟨c0, c1, c2⟩, hl, bounds_i64 w1, bounds_i64 w2⟩
    obtain ⟨ts, htl, hts⟩ := list_of len _ hp
    refine ⟨some a, len, cap, ts, rfl, htl.symm, hl, by unfold maxLen at hm; omega, fun hn => ?_, fun x hx => ?_⟩
    · have ha := plain_addr (hts 0 (by omega)).1.1 (Nat.zero_mul 3)
      refine ⟨a.block, a.off, congrArg some ha, ?_, fun i hi => ?_⟩
      · have := block_lt_of_cell (hts 0 (by omega)).1.1
        simpa [Addr.add] using this
      · have := (hts i hi).1
        rw [ha, add_plain, add_plain, add_plain] at this
        exact this
    · obtain ⟨i, hi, rfl⟩ := List.getElem_of_mem hx
      exact (hts i hi).2

theorem open_rls {t e u : TypeId} {f0 f1 f2 : Field} {fuel : Nat} {cs : List Value} {x : DataW H × List MemPlace} (ht : P.underlying t = some (.slice e)) (he : P.underlying e = some (.struct #[f0, f1, f2]))
    (hone : oneCellFields P #[f0, f1, f2] = true) (hC : P.cellsOf e = 3) (h0 : P.underlying f0.type = some (.int .i64)) (h1 : P.underlying f1.type = some (.slice u)) (hu : P.underlying u = some (.int .i64)) (hcu : P.cellsOf u = 1) (h2 : P.underlying f2.type = some (.int .i64)) (h : DataW.trod enc P w base spare held fuel t cs = some x) :
    ∃ A n c rs, cs = [.slice A n c] ∧ n = rs.length ∧ n ≤ c ∧ c ≤ 9223372036854775807 ∧ RdRl w w.heap.size A rs ∧ ∀ x ∈ rs, Gm.In x.l ∧ Gm.In x.p ∧ ∀ z ∈ x.r, Gm.In z := by
  rcases open_rows ht he hone hC h with rfl | ⟨a, len, cap, rfl, hl, hm, hi⟩
  · exact ⟨none, 0, 0, [], rfl, rfl, Nat.le_refl _, by omega, fun h => absurd rfl h, fun x hx => by simp at hx⟩
  · have hp : ∀ i, i < len → ∃ t : Gm.Rl, (w.cell? (a.add (i * 3)) = some (.int .i64 t.l) ∧ (∃ A' c', w.cell? (a.add (i * 3 + 1)) = some (.slice A' t.r.length c') ∧ t.r.length ≤ c' ∧ c' ≤ 9223372036854775807 ∧ RdI w w.heap.size A' t.r) ∧ w.cell? (a.add (i * 3 + 2)) = some (.int .i64 t.p)) ∧ Gm.In t.l ∧ Gm.In t.p ∧ ∀ z ∈ t.r, Gm.In z := fun i hil => by
      obtain ⟨v0, y0, n0, c0, t0⟩ := hi i hil 0 f0 rfl
      obtain ⟨v1, y1, n1, c1, t1⟩ := hi i hil 1 f1 rfl
      obtain ⟨v2, y2, n2, c2, t2⟩ := hi i hil 2 f2 rfl
      obtain ⟨z0, e0, _, w0⟩ := DataW.trod_int h0 t0
      obtain ⟨z2, e2, _, w2⟩ := DataW.trod_int h2 t2
      injection e0 with e0; injection e2 with e2
      subst e0 e2
      rcases open_ints h1 hu hcu t1 with ⟨hcs, _⟩ | ⟨x, l, c, zs, hcs, _, hl, hm, hz, hx, hcell, hwz⟩
      · injection hcs with hcs
        subst hcs
        exact ⟨⟨z0, [], z2⟩, ⟨c0, ⟨none, 0, c1, Nat.le_refl _, by omega, RdI.nil _ _ _⟩, c2⟩, bounds_i64 w0, bounds_i64 w2, fun z hz => by simp at hz⟩
      · injection hcs with hcs
        subst hcs
        have hzl : l ≤ zs.length := by rw [hz]; split <;> omega
        refine ⟨⟨z0, zs.take l, z2⟩, ⟨c0, ⟨some x, c, ?_, ?_, by unfold maxLen at hm; omega, fun hn => ?_⟩, c2⟩, bounds_i64 w0, bounds_i64 w2, fun z hz => bounds_i64 (hwz z (List.mem_of_mem_take hz))⟩
        · have hln : (zs.take l).length = l := by rw [List.length_take]; omega
          show w.cell? (a.add (i * 3 + 1)) = some (.slice (some x) (zs.take l).length c)
          rw [hln]; exact c1
        · show (zs.take l).length ≤ c
          rw [List.length_take]; omega
        · have hl0 : 0 < zs.length := by simp at hn; omega
          have ha := plain_addr (hcell 0 hl0) rfl
          refine ⟨x.block, x.off, congrArg some ha, ?_, fun j hj => ?_⟩
          · have := block_lt_of_cell (hcell 0 hl0)
            simpa [Addr.add] using this
          · have hj' : j < l := by simp at hj; omega
            have h1 := hcell j (by omega)
            rw [ha, add_plain] at h1
            rw [h1]
            simp only [List.getD, List.getElem?_take]
            rw [if_pos hj']
    obtain ⟨ts, htl, hts⟩ := list_of len _ hp
    refine ⟨some a, len, cap, ts, rfl, htl.symm, hl, by unfold maxLen at hm; omega, fun hn => ?_, fun x hx => ?_⟩
    · have ha := plain_addr (hts 0 (by omega)).1.1 (Nat.zero_mul 3)
      refine ⟨a.block, a.off, congrArg some ha, ?_, fun i hi => ?_⟩
      · have := block_lt_of_cell (hts 0 (by omega)).1.1
        simpa [Addr.add] using this
      · have := (hts i hi).1
        rw [ha, add_plain, add_plain, add_plain] at this
        exact this
    · obtain ⟨i, hi, rfl⟩ := List.getElem_of_mem hx
      exact (hts i hi).2

theorem open_txs {t e : TypeId} {fuel : Nat} {cs : List Value} {x : DataW H × List MemPlace} (ht : P.underlying t = some (.slice e)) (he : P.underlying e = some .string) (hC : P.cellsOf e = 1) (h : DataW.trod enc P w base spare held fuel t cs = some x) :
    ∃ A n c ns, cs = [.slice A n c] ∧ n = ns.length ∧ n ≤ c ∧ c ≤ 9223372036854775807 ∧ RdN w w.heap.size A ns ∧ ∀ x ∈ ns, K.Tx x := by
  rcases open_strings ht he hC h with ⟨hcs, _⟩ | ⟨x, l, c, ss, hcs, _, hl, hm, hz, _, hcell, hsz⟩
  · exact ⟨none, 0, 0, [], hcs, rfl, Nat.le_refl _, by omega, fun h => absurd rfl h, fun x hx => by simp at hx⟩
  · have hzl : l ≤ ss.length := by rw [hz]; split <;> omega
    have hp : ∀ i, i < l → ∃ t : List Int, w.cell? (x.add i) = some (.string (K.str t)) ∧ K.Tx t := fun i hi => by
      obtain ⟨t, ht, he⟩ := K.txt (ss.getD i ByteArray.empty) (hsz _ (by rw [List.getD_eq_getElem?_getD, List.getElem?_eq_getElem (by omega)]; exact List.getElem_mem _))
      exact ⟨t, by rw [hcell i (by omega), he], ht⟩
    obtain ⟨ns, hnl, hns⟩ := list_of l _ hp
    refine ⟨some x, l, c, ns, hcs, hnl.symm, hl, by unfold maxLen at hm; omega, fun hn => ?_, fun y hy => ?_⟩
    · have ha := plain_addr (hns 0 (by omega)).1 rfl
      refine ⟨x.block, x.off, congrArg some ha, ?_, fun j hj => ?_⟩
      · have := block_lt_of_cell (hns 0 (by omega)).1
        simpa [Addr.add] using this
      · have h1 := (hns j hj).1
        rw [ha, add_plain] at h1
        exact h1
    · obtain ⟨i, hi, rfl⟩ := List.getElem_of_mem hy
      exact (hns i hi).2

/-- A grammar that is handed in is one, and each of its numbers has 64 bits. -/
theorem open_gram {r : Reach} {b0 : Nat} {t e1 e2 e3 u : TypeId} {f0 f1 f2 f3 x0 x1 x2 y0 y1 y2 : Field} {v : Value} {d : DataW H} {p : List MemPlace} (hs : P.underlying t = some (.struct #[f0, f1, f2, f3])) (hone : oneCellFields P #[f0, f1, f2, f3] = true) (hC : P.cellsOf t = 4)
    (hf0 : P.underlying f0.type = some (.slice e1)) (he1 : P.underlying e1 = some (.struct #[x0, x1, x2])) (ho1 : oneCellFields P #[x0, x1, x2] = true) (hc1 : P.cellsOf e1 = 3) (hx0 : P.underlying x0.type = some .string) (hx1 : P.underlying x1.type = some (.int .i64)) (hx2 : P.underlying x2.type = some (.int .i64))
    (hf1 : P.underlying f1.type = some (.slice e2)) (he2 : P.underlying e2 = some .string) (hc2 : P.cellsOf e2 = 1)
    (hf2 : P.underlying f2.type = some (.slice e3)) (he3 : P.underlying e3 = some (.struct #[y0, y1, y2])) (ho3 : oneCellFields P #[y0, y1, y2] = true) (hc3 : P.cellsOf e3 = 3) (hy0 : P.underlying y0.type = some (.int .i64)) (hy1 : P.underlying y1.type = some (.slice u)) (hu : P.underlying u = some (.int .i64)) (hcu : P.cellsOf u = 1) (hy2 : P.underlying y2.type = some (.int .i64))
    (hf3 : P.underlying f3.type = some (.int .i64))
    (hv : Value.okWide P w r b0 t v) (h : DataW.Trod enc P w base spare held t v d p) :
    ∃ G, RdGr w w.heap.size v G ∧ Gm.Fit G := by
  obtain ⟨v0, v1, v2, v3, y0', y1', y2', y3', n, rfl, _, _, k0, k1, k2, k3⟩ := open_agg4 hs hone hC hv h
  obtain ⟨AT, nT, cT, ts, e0, hn0, l0, m0, r0, w0⟩ := open_tms hf0 he1 ho1 hc1 hx0 hx1 hx2 k0
  obtain ⟨AR, nR, cR, rs, e2', hn2, l2, m2, r2, w2⟩ := open_rls hf2 he3 ho3 hc3 hy0 hy1 hu hcu hy2 k2
  obtain ⟨z, e3', _, w3⟩ := DataW.trod_int hf3 k3
  obtain ⟨AN, nN, cN, ns, e1', hn1, l1, m1, r1, w1⟩ := open_txs hf1 he2 hc2 k1
  injection e0 with e0; injection e1' with e1'; injection e2' with e2'; injection e3' with e3'
  subst e0 e1' e2' e3' hn0 hn1 hn2
  exact ⟨⟨ts, ns, rs, z⟩, ⟨AT, cT, AN, cN, AR, cR, rfl, ⟨l0, m0⟩, ⟨l1, m1⟩, ⟨l2, m2⟩, r0, r1, r2⟩, ⟨w0, w1, w2, bounds_i64 w3⟩⟩
end
end Go.Proofs.YtfiijndmlmddbaaGreat

namespace Go.Proofs.YtfiijndmlmddbaaGreat.RowKit
open Go.ChangeShapes Go.WideShapes Go.ChangeAt Go.RowKit

theorem own : ownKnob Tryz.prog.godebug = none := by kernel_rfl
theorem laidOut : laidOutB Tryz.prog = true := by kernel_rfl
end Go.Proofs.YtfiijndmlmddbaaGreat.RowKit
