/- The contract of yacc's Parse, over this program. -/
import Derived.Test.YtoehbkgdodogkaaGreatYaccOf
import Derived.Test.YtoehbkgdodogkaaGreatScanL
namespace Go.Proofs.YtoehbkgdodogkaaGreat
set_option maxRecDepth 100000
open Go.RowKit

set_option maxHeartbeats 2000000 in
theorem parse_any (A : Option Addr) (c : Nat) (L : List Int) (w : World) (hr : RdB w w.heap.size A L) (hl : K.Bytes L) (hc : L.length ≤ c) (hn : L.length ≤ 4000) (hm : ML w) :
    Calls Tryz.prog 29 #[.slice A L.length c] w (ParseAns L w (toks L)) := by
  have SC := fun a w m X Y => show (store a (.complex .f64 X Y) m).run Tryz.prog w = stored Tryz.prog w a (.complex .f64 X Y) m from run_store _ w a _ m rfl
  have HT := hide (fun (w1 : World) (h1 : Below w.heap.size w w1) => toks_any A c L w1 (hr.up h1) hl hc hn (hm.up h1))
  have HB0 := hide (fun o => ((Below.refl w.heap.size w).alloc (Nat.le_refl _) o))
  have HRI := hide (toks_rise L hl)
  clear hr hl hc hm
  rcases hR : toks L with xs | ⟨o, d⟩
  · rw [hR] at HT
    have hxs : xs.length ≤ 4000 := by have := (HRI.out xs hR).count; omega
    clear hR HRI
    have HOF := hide (fun (w1 : World) (A' : Option Addr) (c' : Nat) (h1 : RdT L w1 w1.heap.size A' xs) (h2 : xs.length ≤ c') => of_any L A' c' (Fl.fl (Pl.pos L).1) (Fl.fl (Pl.pos L).2) xs w1 h1 h2 hxs)
    go_enter Tryz.func29, Tryz.ntmps29
    go_wp2_with fail
    refine (HT.out _ (HB0.out _)).mono ?_; rintro _ w2 ⟨v, rfl, ho, hb⟩
    obtain ⟨A', c', rfl, hxc, _, hrd⟩ := ho.rd
    have h2 : w2.heap[w.heap.size]? = some (.cells #[.slice none 0 0, .slice none 0 0] 57 (0, 0)) := (hb.block w.heap.size (by simp)).trans (heap_alloc_new w _)
    have HB2 := hide ((HB0.out (.cells #[.slice none 0 0, .slice none 0 0] 57)).trans (hb.mono (HB0.out _).size))
    have HO2 := hide (HOF.out w2 A' c' hrd hxc)
    clear ho hb HT HB0 HOF hrd hxc
    rcases hs : Y.source xs with ⟨s, r⟩ | p
    · rw [hs] at HO2
      go_wp2_with fail
      refine HO2.out.mono ?_; rintro _ w3 ⟨hb3, dv, pv, rfl, hod, hop⟩
      have h3 := (hb3.block w.heap.size (Array.getElem?_eq_some_iff.1 h2).1).trans h2
      have c0 := cell_of_row w3 _ 0 _ _ _ h3
      have c1 := cell_of_row w3 _ 1 _ _ _ h3
      have f0 := frozen_of_row w3 _ 0 _ _ h3
      have f1 := frozen_of_row w3 _ 1 _ _ h3
      have HB3 := hide (HB2.out.trans (hb3.mono HB2.out.size))
      have HX := hide (other_of h3 (by decide))
      obtain ⟨DA, DC, rfl, _, _⟩ := hod.form
      obtain ⟨PA', PC, rfl, _, _⟩ := hop.form
      have HWD : Hid (OwnD L ((w3.setCell ⟨w.heap.size, 0, none⟩ (.slice DA s.1.length DC)).setCell ⟨w.heap.size, 1, none⟩ (.slice PA' s.2.length PC)) w.heap.size (.slice DA s.1.length DC) s.1) := hide (by
        obtain ⟨zs, hz⟩ := hod.own
        exact (hod.less HB2.out.size).grown (only_set (only_set (World.grownBy.refl _ _) _ _) _ _) ⟨HX.out, .inr (own_ne hz h3 (by decide))⟩)
      have HWP : Hid (OwnP L ((w3.setCell ⟨w.heap.size, 0, none⟩ (.slice DA s.1.length DC)).setCell ⟨w.heap.size, 1, none⟩ (.slice PA' s.2.length PC)) w.heap.size (.slice PA' s.2.length PC) s.2) := hide (by
        obtain ⟨zs, hz⟩ := hop.own
        exact (hop.less HB2.out.size).grown (only_set (only_set (World.grownBy.refl _ _) _ _) _ _) ⟨HX.out, .inr (own_ne hz h3 (by decide))⟩)
      clear hod hop hb3 HO2 h2 h3
      go_wp2
      refine bodyPost_ret (v := .tuple #[.agg #[.slice DA s.1.length DC, .slice PA' s.2.length PC], .complex .f64 0 0, .int .i64 0]) (by simp [results, Tryz.results29, go_sem, c0, c1]) rfl ?_
      unfold ParseAns
      simp only
      rw [hs]
      exact ⟨below_far (below_far HB3.out _ (Nat.le_refl _)) _ (Nat.le_refl _), _, _, rfl, HWD.out, HWP.out⟩
    · rw [hs] at HO2
      rcases p with _ | t
      · go_wp2_with fail
        refine HO2.out.mono ?_; rintro _ w3 ⟨hb3, rfl⟩
        have h3 := (hb3.block w.heap.size (Array.getElem?_eq_some_iff.1 h2).1).trans h2
        have c0 := cell_of_row w3 _ 0 _ _ _ h3
        have c1 := cell_of_row w3 _ 1 _ _ _ h3
        have f0 := frozen_of_row w3 _ 0 _ _ h3
        have f1 := frozen_of_row w3 _ 1 _ _ h3
        have HB3 := hide (HB2.out.trans (hb3.mono HB2.out.size))
        clear hb3 HO2 h2 h3
        go_wp2
        refine bodyPost_ret (v := .tuple #[.agg #[.slice none 0 0, .slice none 0 0], .complex .f64 (Fl.fl (Pl.pos L).1) (Fl.fl (Pl.pos L).2), .int .i64 4]) (by simp [results, Tryz.results29, go_sem, c0, c1]) rfl ?_
        unfold ParseAns
        simp only
        rw [hs]
        exact ⟨below_far (below_far HB3.out _ (Nat.le_refl _)) _ (Nat.le_refl _), rfl⟩
      · go_wp2_with fail
        refine HO2.out.mono ?_; rintro _ w3 ⟨hb3, rfl⟩
        have h3 := (hb3.block w.heap.size (Array.getElem?_eq_some_iff.1 h2).1).trans h2
        have c0 := cell_of_row w3 _ 0 _ _ _ h3
        have c1 := cell_of_row w3 _ 1 _ _ _ h3
        have f0 := frozen_of_row w3 _ 0 _ _ h3
        have f1 := frozen_of_row w3 _ 1 _ _ h3
        have HB3 := hide (HB2.out.trans (hb3.mono HB2.out.size))
        clear hb3 HO2 h2 h3
        go_wp2
        refine bodyPost_ret (v := .tuple #[.agg #[.slice none 0 0, .slice none 0 0], .complex .f64 (Fl.fl (Pl.pos (L.take t.o)).1) (Fl.fl (Pl.pos (L.take t.o)).2), .int .i64 3]) (by simp [results, Tryz.results29, go_sem, c0, c1]) rfl ?_
        unfold ParseAns
        simp only
        rw [hs]
        exact ⟨below_far (below_far HB3.out _ (Nat.le_refl _)) _ (Nat.le_refl _), rfl⟩
  · rw [hR] at HT
    have hd0 : (d == 0) = false := by simpa using toks_ne L o d hR
    clear hR HRI
    go_enter Tryz.func29, Tryz.ntmps29
    go_wp2_with fail
    refine (HT.out _ (HB0.out _)).mono ?_; rintro _ w2 ⟨rfl, hb⟩
    have h2 : w2.heap[w.heap.size]? = some (.cells #[.slice none 0 0, .slice none 0 0] 57 (0, 0)) := (hb.block w.heap.size (by simp)).trans (heap_alloc_new w _)
    have HB2 := hide ((HB0.out (.cells #[.slice none 0 0, .slice none 0 0] 57)).trans (hb.mono (HB0.out _).size))
    have c0 := cell_of_row w2 _ 0 _ _ _ h2
    have c1 := cell_of_row w2 _ 1 _ _ _ h2
    have f0 := frozen_of_row w2 _ 0 _ _ h2
    have f1 := frozen_of_row w2 _ 1 _ _ h2
    clear hb h2 HT HB0
    go_wp2
    exact bodyPost_ret (v := .tuple #[.agg #[.slice none 0 0, .slice none 0 0], .complex .f64 (Fl.fl (Pl.pos (L.take o)).1) (Fl.fl (Pl.pos (L.take o)).2), .int .i64 d]) (by simp [results, Tryz.results29, go_sem, c0, c1]) rfl ⟨below_far (below_far HB2.out _ (Nat.le_refl _)) _ (Nat.le_refl _), rfl⟩
end Go.Proofs.YtoehbkgdodogkaaGreat
