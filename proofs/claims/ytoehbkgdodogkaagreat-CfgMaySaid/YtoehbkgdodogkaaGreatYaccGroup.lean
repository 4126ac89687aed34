/- The contract of the reader's group (goto: alternative by alternative), over this program. -/
import Derived.Test.YtoehbkgdodogkaaGreatYaccRule
import Derived.Test.YtoehbkgdodogkaaGreatLexQuo
namespace Go.Proofs.YtoehbkgdodogkaaGreat
set_option maxRecDepth 100000
open Go.RowKit

theorem field_tok (k : Int) (y z : Value) (w : World) : (Instr.field 89 (.agg #[.int .i64 k, y, z]) 0).run Tryz.prog w = .ok (.int .i64 k) w := by kernel_rfl

/-- How far a group is read. -/
def GAt (L : List Int) (B R px py : Nat) (a : World) (left : Tok) (g5 : Nat) (RES : Y.Res (List Y.Prd)) (f : Nat) (acc : List Y.Prd) (ts : List Tok) (v : Value) (w : World) : Prop :=
  a.grownBy w (some R) ∧ Rdr L B R px py w ts ∧ OwnP L w a.heap.size v acc ∧ acc.length + ts.length ≤ 8000 ∧ ts.length < f ∧ a.heap.size ≤ g5 ∧ w.heap[g5]? = some (.cells #[.string (K.str left.t), .complex .f64 (Fl.fl (Pl.pos (L.take left.o)).1) (Fl.fl (Pl.pos (L.take left.o)).2)] 74 (0, 0)) ∧ Y.alts f left acc ts = RES

set_option maxHeartbeats 4000000 in
theorem group_any (L : List Int) (B R px py : Nat) (ts : List Tok) (a w : World) (v : Value) (ps : List Y.Prd) (hr : Rdr L B R px py w ts) (ha : a.grownBy w (some R)) (hR : R < a.heap.size) (hp : OwnP L w a.heap.size v ps) (hn : ps.length + ts.length ≤ 8000) :
    Calls Tryz.prog 84 #[.pointer (some ⟨R, 0, none⟩), v] w (Does L B R px py a (fun ps v w => OwnP L w a.heap.size v ps) (Y.group ps ts)) := by
  have HR := hide hr
  have HA := hide ha
  have HP := hide hp
  have SC := fun a w m X Y => show (store a (.complex .f64 X Y) m).run Tryz.prog w = stored Tryz.prog w a (.complex .f64 X Y) m from run_store _ w a _ m rfl
  have SF := field_tok
  have HRF := hide (ref_at L B R px py ts [1] (by decide) w)
  have HG : Hid (Y.group ps ts = (Y.take [1] ts).bind fun left r => (Y.take [10] r).bind fun _ r => Y.alts (r.length + 1) left ps r) := hide rfl
  unfold refV at HRF
  clear hr ha hp
  rcases h1 : Y.take [1] ts with ⟨left, r1⟩ | p
  · rw [h1] at HRF HG
    have HTS : Hid (ts.length = r1.length + 1) := hide (by rw [(Y.take_ok h1).1]; rfl)
    clear h1
    have HTK := hide (fun (x : World) => take_at L B R px py r1 [10] (by decide) x)
    unfold tokV at HTK
    rcases h2 : Y.take [10] r1 with ⟨tc, r2⟩ | p
    · rw [h2] at HTK
      have HTS2 : Hid (r1.length = r2.length + 1) := hide (by rw [(Y.take_ok h2).1]; rfl)
      have HG2 : Hid (Y.group ps ts = Y.alts (r2.length + 1) left ps r2) := hide (by rw [HG.out, Y.bind_ok, h2, Y.bind_ok])
      clear h2 HG
      generalize Y.group ps ts = RES at *
      go_enter Tryz.func84, Tryz.ntmps84
      go_wp2
      refine wp_scope_label 0 (fun a' w' => ∃ (g5 f : Nat) (acc : List Y.Prd) (rest : List Tok) (v' : Value), GAt L B R px py a left g5 RES f acc rest v' w' ∧ ∃ (u2 u3 u6 u7 u8 u9 u10 u11 u12 u13 u14 u15 u16 u17 u18 u19 u20 u21 u22 u23 : Value), a' = { tmps := #[.pointer (some ⟨R, 0, none⟩), v', u2, u3, .slice none 0 0, .pointer (some ⟨g5, 0, none⟩), u6, u7, u8, u9, u10, u11, u12, u13, u14, u15, u16, u17, u18, u19, u20, u21, u22, u23], defers := [] }) (fun a' _ => 8001 - slLen (a'.tmps.getD 1 undef)) rfl ?_ ?_
      · rintro a' w' ⟨g5, f, acc, rest, v', hat, u2, u3, u6, u7, u8, u9, u10, u11, u12, u13, u14, u15, u16, u17, u18, u19, u20, u21, u22, u23, rfl⟩
        obtain ⟨hg, hrd, ho, hlen, hf, hg5, hb5, hal⟩ := hat
        have HGR := hide hg
        have HRD := hide hrd
        have HO := hide ho
        have HL := hide hlen
        have HF := hide hf
        have HG5 := hide hg5
        have HB5 := hide hb5
        have HAL := hide hal
        have c0 := cell_of_row w' g5 0 _ _ _ hb5
        have c1 := cell_of_row w' g5 1 _ _ _ hb5
        have HRU := hide (rule_any L B R px py rest left w' hrd)
        unfold refV at HRU
        obtain ⟨A', c', rfl, hac, hcm⟩ := ho.form
        clear hg hrd ho hlen hf hg5 hb5 hal hac hcm
        obtain ⟨f, rfl⟩ : ∃ f', f = f' + 1 := ⟨f - 1, by have := HF.out; omega⟩
        have HAL2 : Hid ((Y.rule left rest).bind (fun p r => (Y.take [11, 12] r).bind fun t r => if t.k = 11 then Y.alts f left (acc ++ [p]) r else .ok (acc ++ [p]) r) = RES) := hide HAL.out
        have HSZ : Hid (a.heap.size ≤ w'.heap.size) := hide HGR.out.size
        clear HAL HRF HTK
        rcases hru : Y.rule left rest with ⟨p, r⟩ | p
        · rw [hru] at HRU HAL2
          rw [Y.bind_ok] at HAL2
          have hrl := rule_len hru
          have HRL := hide hrl
          clear hru hrl
          have HTA := hide (fun (x : World) => take_at L B R px py r [11, 12] (by decide) x)
          unfold tokV at HTA
          obtain ⟨x3, x4, hx⟩ := precells_two L p.p
          have HPC := hide (fun A c => (show (pcells L p A c) = [.string (K.str p.l.t), .complex .f64 (Fl.fl (Pl.pos (L.take p.l.o)).1) (Fl.fl (Pl.pos (L.take p.l.o)).2), .slice A p.r.length c, x3, x4] by unfold pcells; rw [hx]; rfl))
          clear hx
          rcases hta : Y.take [11, 12] r with ⟨t, r'⟩ | q
          · rw [hta] at HTA HAL2
            rw [Y.bind_ok] at HAL2
            have HTL : Hid (r.length = r'.length + 1) := hide (by rw [(Y.take_ok hta).1]; rfl)
            clear hta
            go_wp2_with fail
            refine HRU.out.mono ?_; rintro _ w2 ⟨hg2, v2, rfl, hrd2, A, c, hv, hrr⟩
            rw [HPC.out] at hv
            subst hv
            have HG2 := hide hg2
            have HRD2 := hide hrd2
            have HRR2 := hide (hrr.less HSZ.out)
            have HO2 := hide (HO.out.grown hg2 (HO.out.away HRD.out hR))
            have HB52 := hide (ref_block HB5.out hg2 HRD.out.other)
            have HGR2 := hide (HGR.out.trans hg2)
            clear hg2 hrd2 hrr
            obtain ⟨zs, hown⟩ := HO2.out.own
            have HW := hide hown
            clear hown
            have HCE : Hid (∀ j u, (pcells L p A c)[j]? = some u → (w2.alloc (.cells #[.string (K.str p.l.t), .complex .f64 (Fl.fl (Pl.pos (L.take p.l.o)).1) (Fl.fl (Pl.pos (L.take p.l.o)).2), .slice A p.r.length c, x3, x4] 102)).cell? ⟨w2.heap.size, j, none⟩ = some u) := hide (by
              intro j u hu
              rw [World.cell?_alloc_new]
              rw [HPC.out] at hu
              simpa using hu)
            have HAC : Hid (acc.length ≤ 8000) := hide (by have := HL.out; omega)
            go_wp2_with (at_builtin; refine apP_arm rfl (.tmp 12) (.tmp 16) _ rfl Tryz.underlying55 L a.heap.size _ acc rfl (HO2.out.grown (only_alloc (World.grownBy.refl _ _) _) (Away.none _ _)) w2.heap.size 1 p A c rfl HCE.out (HRR2.out.grown (only_alloc (World.grownBy.refl _ _) _) (Other.none _)) (by have := HAC.out; omega) (by have := HGR2.out.size; simp; omega) ?_; intro v3 w3 ho3 hg3)
            have HO3 := hide ho3
            have HGR3 := hide (grown_own (only_alloc HGR2.out _) (HW.out.alloc _) hg3)
            have HRD3 := hide ((HRD2.out.alloc _).own (HW.out.alloc _) hg3 hR)
            have HB53 := hide (ref_block (ref_block HB52.out (only_alloc (World.grownBy.refl _ _) _) (Other.none _)) hg3 (own_other (HW.out.alloc _) (by decide)))
            clear ho3 hg3
            have HO4f := hide (fun (w4 : World) (h : w3.grownBy w4 (some R)) => HO3.out.grown h (HO3.out.away HRD3.out hR))
            by_cases hk : t.k = 11
            · have hk' : (t.k == 11) = true := by simpa using hk
              rw [if_pos hk] at HAL2
              clear hk
              go_wp2_with fail
              refine (HTA.out _ _ _ rfl rfl HRD3.out).mono ?_; rintro _ w4 ⟨hg4, v4, rfl, hrd4, rfl⟩
              have HO4 := hide (HO4f.out w4 hg4)
              have HB54 := hide (ref_block HB53.out hg4 HRD3.out.other)
              have HGR4 := hide (HGR3.out.trans hg4)
              have HRD4 := hide hrd4
              clear hg4 hrd4
              obtain ⟨A4, c4, rfl, _, _⟩ := HO4.out.form
              rw [show (acc ++ [p]).length = acc.length + 1 by simp] at HO4
              go_wp2
              go_step3
              refine ⟨rfl, ⟨g5, f, acc ++ [p], r', .slice A4 (acc.length + 1) c4, ⟨HGR4.out, HRD4.out, HO4.out, by have := HL.out; have := HRL.out; have := HTL.out; simp; omega, by have := HF.out; have := HRL.out; have := HTL.out; omega, HG5.out, HB54.out, HAL2.out⟩, _, _, _, _, _, _, _, _, _, _, _, _, _, _, _, _, _, _, _, _, rfl⟩, ?_⟩
              have := HAC.out
              simp [slLen]
              omega
            · have hk' : (t.k == 11) = false := by simpa using hk
              rw [if_neg hk] at HAL2
              clear hk
              obtain rfl : RES = .ok (acc ++ [p]) r' := HAL2.out.symm
              go_wp2_with fail
              refine (HTA.out _ _ _ rfl rfl HRD3.out).mono ?_; rintro _ w4 ⟨hg4, v4, rfl, hrd4, rfl⟩
              have HO4 := hide (HO4f.out w4 hg4)
              have HGR4 := hide (HGR3.out.trans hg4)
              have HRD4 := hide hrd4
              clear hg4 hrd4
              go_wp2
              simp only [Exit.jump]
              go_ret
              exact ⟨HGR4.out, _, rfl, HRD4.out, HO4.out⟩
          · rw [hta] at HTA HAL2
            clear hta
            obtain rfl : RES = .bad q := HAL2.out.symm
            go_wp2_with fail
            refine HRU.out.mono ?_; rintro _ w2 ⟨hg2, v2, rfl, hrd2, A, c, hv, hrr⟩
            rw [HPC.out] at hv
            subst hv
            have HG2 := hide hg2
            have HRD2 := hide hrd2
            have HRR2 := hide (hrr.less HSZ.out)
            have HO2 := hide (HO.out.grown hg2 (HO.out.away HRD.out hR))
            have HB52 := hide (ref_block HB5.out hg2 HRD.out.other)
            have HGR2 := hide (HGR.out.trans hg2)
            clear hg2 hrd2 hrr
            obtain ⟨zs, hown⟩ := HO2.out.own
            have HW := hide hown
            clear hown
            have HCE : Hid (∀ j u, (pcells L p A c)[j]? = some u → (w2.alloc (.cells #[.string (K.str p.l.t), .complex .f64 (Fl.fl (Pl.pos (L.take p.l.o)).1) (Fl.fl (Pl.pos (L.take p.l.o)).2), .slice A p.r.length c, x3, x4] 102)).cell? ⟨w2.heap.size, j, none⟩ = some u) := hide (by
              intro j u hu
              rw [World.cell?_alloc_new]
              rw [HPC.out] at hu
              simpa using hu)
            have HAC : Hid (acc.length ≤ 8000) := hide (by have := HL.out; omega)
            go_wp2_with (at_builtin; refine apP_arm rfl (.tmp 12) (.tmp 16) _ rfl Tryz.underlying55 L a.heap.size _ acc rfl (HO2.out.grown (only_alloc (World.grownBy.refl _ _) _) (Away.none _ _)) w2.heap.size 1 p A c rfl HCE.out (HRR2.out.grown (only_alloc (World.grownBy.refl _ _) _) (Other.none _)) (by have := HAC.out; omega) (by have := HGR2.out.size; simp; omega) ?_; intro v3 w3 ho3 hg3)
            have HO3 := hide ho3
            have HGR3 := hide (grown_own (only_alloc HGR2.out _) (HW.out.alloc _) hg3)
            have HRD3 := hide ((HRD2.out.alloc _).own (HW.out.alloc _) hg3 hR)
            have HB53 := hide (ref_block (ref_block HB52.out (only_alloc (World.grownBy.refl _ _) _) (Other.none _)) hg3 (own_other (HW.out.alloc _) (by decide)))
            clear ho3 hg3
            go_wp2_with fail
            refine (HTA.out _ _ _ rfl rfl HRD3.out).mono ?_; rintro _ w4 ⟨hg4, rfl⟩
            exact ⟨rfl, HGR3.out.trans hg4, rfl⟩
        · rw [hru] at HRU HAL2
          clear hru
          obtain rfl : RES = .bad p := HAL2.out.symm
          go_wp2_with fail
          refine HRU.out.mono ?_; rintro _ w2 ⟨hg2, rfl⟩
          exact ⟨rfl, HGR.out.trans hg2, rfl⟩
      · intro hp
        go_wp2_with fail
        refine (HRF.out _ _ rfl rfl HR.out).mono ?_; rintro _ w1 ⟨hg1, v1, rfl, hrd1, rfl⟩
        have HG1 := hide hg1
        have HRD1 := hide hrd1
        clear hg1 hrd1
        go_wp2_with fail
        refine (HTK.out _ _ _ rfl (by simp) (HRD1.out.alloc _)).mono ?_; rintro _ w2 ⟨hg2, v2, rfl, hrd2, rfl⟩
        have hb5 : w2.heap[w1.heap.size]? = some (.cells #[.string (K.str left.t), .complex .f64 (Fl.fl (Pl.pos (L.take left.o)).1) (Fl.fl (Pl.pos (L.take left.o)).2)] 74 (0, 0)) := block_at hg2 (heap_alloc_new w1 _) (by have := HA.out.size; have := HG1.out.size; omega)
        have HO2 := hide (((HP.out.grown HG1.out (HP.out.away HR.out hR)).grown (only_alloc (World.grownBy.refl _ _) _) (Away.none _ _)).grown hg2 (((HP.out.grown HG1.out (HP.out.away HR.out hR)).grown (only_alloc (World.grownBy.refl _ _) _) (Away.none _ _)).away (HRD1.out.alloc _) hR))
        have HGR2 := hide ((HA.out.trans HG1.out).trans ((only_alloc (World.grownBy.refl _ _) _).trans hg2))
        go_wp2
        go_step3
        rename_i hK
        refine hK _ _ (hp _ _ ⟨w1.heap.size, r2.length + 1, ps, r2, v, ⟨HGR2.out, hrd2, HO2.out, by have := HTS.out; have := HTS2.out; omega, by omega, by have := HA.out.size; have := HG1.out.size; omega, hb5, HG2.out.symm⟩, _, _, _, _, _, _, _, _, _, _, _, _, _, _, _, _, _, _, _, _, rfl⟩)
    · rw [h2] at HTK
      have HG2 : Hid (Y.group ps ts = .bad p) := hide (by rw [HG.out, Y.bind_ok, h2, Y.bind_bad])
      rw [HG2.out]
      clear h2 HG
      go_enter Tryz.func84, Tryz.ntmps84
      go_wp2
      refine wp_scope_label 0 (fun _ _ => False) (fun _ _ => 0) rfl (fun _ _ h => h.elim) ?_
      intro _
      go_wp2_with fail
      refine (HRF.out _ _ rfl rfl HR.out).mono ?_; rintro _ w1 ⟨hg1, v1, rfl, hrd1, rfl⟩
      have HG1 := hide hg1
      have HRD1 := hide hrd1
      clear hg1 hrd1
      go_wp2_with fail
      refine (HTK.out _ _ _ rfl (by simp) (HRD1.out.alloc _)).mono ?_; rintro _ w2 ⟨hg2, rfl⟩
      exact ⟨rfl, (HA.out.trans HG1.out).trans ((only_alloc (World.grownBy.refl _ _) _).trans hg2), rfl⟩
  · rw [h1] at HRF HG
    clear h1
    rw [HG.out, Y.bind_bad]
    go_enter Tryz.func84, Tryz.ntmps84
    go_wp2
    refine wp_scope_label 0 (fun _ _ => False) (fun _ _ => 0) rfl (fun _ _ h => h.elim) ?_
    intro _
    go_wp2_with fail
    refine (HRF.out _ _ rfl rfl HR.out).mono ?_; rintro _ w1 ⟨hg1, rfl⟩
    exact ⟨rfl, HA.out.trans hg1, rfl⟩
end Go.Proofs.YtoehbkgdodogkaaGreat
