/-
  Layer 5: clone of a node: what it has on its way; the walk.
-/
import Derived.Test.YtjdlicphmflnkaaT36
import Derived.Deep.RegionLaw
import Derived.Deep.RegionWith
import Derived.Deep.Cut
import Derived.RangeFuncLeaves
namespace Go.Proofs.Ytjdlicphmflnkaa.L5
open Go.ChangeShapes Go.WideShapes Go.ChangeAt Go.RowKit By Reg
set_option linter.unusedVariables false
set_option linter.unusedSimpArgs false

/-- a call, as one step of a region that draws -/
theorem step_run_call {P : Program} {ops : Array Oper} {o : Oper} {a : Act} {w : World} {Q : Exit → Act → World → Prop} {K : Act → World → Prop} {E : Prop} (f : FuncId) {args : Array Operand} {tys : Array TypeId} {vs : Array Value}
    (hg : o.guard = none) (ho : o.op = .call { callee := .value (.func f), args := args, argTypes := tys }) (ha : args.map a.eval = vs) (hcf : (callFunc f vs).run P w = .ok (.enter f vs) w) (hc : Calls P f vs w fun e w'' => ∃ v, e = .returned v ∧ K (a.put o.dst v) w'') :
    if Region.wanted o (yielded ops a.tmps) = true then Oper.wp P o a w K Q else E := by
  rw [if_pos (by simp [Region.wanted, hg])]
  unfold Oper.wp
  have : (execOp a.eval o).run P w = .ok (.enter f vs) w := by
    have e : execOp a.eval o = callFunc f (#[] ++ args.map a.eval ++ #[]) := by
      simp only [execOp, ho]; rfl
    rw [e, ha]
    simpa using hcf
  rw [this]
  refine hc.mono ?_
  rintro e w' ⟨v, rfl, h⟩
  exact h

/-- what a clone of a node has, the first i parts being cloned -/
structure Cl (w : World) (d : Nat) (N : Nd) (cs : List Sub) (i : Nat) (wr : World) (C : Nd) (cs' : List Sub) : Prop where
  na : NodeAt wr C
  ks : C.ks = N.ks
  vs : C.vs = N.vs
  ps : C.ps = cs'.map (·.b)
  Ms : cs'.map (·.M) = (cs.take i).map (·.M)
  ns : cs'.map (·.n) = (cs.take i).map (·.n)
  held : ∀ c ∈ cs', Held d wr c
  dj : cs'.Pairwise Dj
  off : ∀ c ∈ cs', ∀ k, C.has k → ¬ c.F k
  new : ∀ k, C.has k → w.heap.size ≤ k
  newc : ∀ c ∈ cs', ∀ k, c.F k → w.heap.size ≤ k
  rb : Rb w wr
theorem Cl.rb' {w wr w2 : World} {d i : Nat} {N C : Nd} {cs cs' : List Sub} (h : Cl w d N cs i wr C cs') (r : Rb wr w2) : Cl w d N cs i w2 C cs' :=
  ⟨h.na.rb r, h.ks, h.vs, h.ps, h.Ms, h.ns, fun c hc => (h.held c hc).rb r, h.dj, h.off, h.new, h.newc, Rb.trans _ _ _ h.rb r⟩

theorem info_Qp : (Try.prog.info? 24).map (fun i => (i.zero, i.size, i.bytes)) = some (some (.pointer none), 1, 8) := by kernel_rfl

/-- one part cloned, and laid behind the others -/
theorem Cl.step {w wr w2 : World} {d i : Nat} {N C : Nd} {cs cs' : List Sub} {c c' : Sub} (h : Cl w d N cs i wr C cs') (hi : cs[i]? = some c) (hr : Rb wr w2) (hh : Held d w2 c') (hn : c'.n = c.n) (hM : c'.M = c.M) (hF : ∀ k, c'.F k → wr.heap.size ≤ k) (hbig : cs'.length ≤ 1000) :
    ∃ pv' w3, (∀ ty, (Builtin.append_ #[68, 68] ty #[C.pv, .slice (some ⟨w2.heap.size, 0, none⟩) 1 1]).run Try.prog (w2.alloc (.cells #[ptrv c'.b] 24)) = .ok pv' w3) ∧
      Blk w3 C.b 70 [C.kv, C.vv, C.pv] ∧ (∃ ao cap, pv' = .slice ao (cs'.length + 1) cap) ∧
      Cl w d N cs (i + 1) (w3.setCell ⟨C.b, 2, none⟩ pv') { C with pv := pv', ps := C.ps ++ [c'.b] } (cs' ++ [c']) := by
  have ht := Try.underlying68
  obtain ⟨i0, hi0, hz0, hzs, hzb⟩ := info_parts info_Qp
  obtain ⟨w2a, e2⟩ : ∃ w2a, w2a = w2.alloc (.cells #[ptrv c'.b] 24) := ⟨_, rfl⟩
  have r2 : Rb w2 w2a := by rw [e2]; exact (Below.refl _ w2).alloc (Nat.le_refl _) _
  have b2 : Blk w2a w2.heap.size 24 [ptrv c'.b] := by rw [e2]; exact Blk.new w2 _ [ptrv c'.b]
  have h2 := (h.rb' hr).rb' r2
  have sl : Sl w2a (.slice (some ⟨w2.heap.size, 0, none⟩) 1 1) [ptrv c'.b] := ⟨_, 1, rfl, Nat.le_refl _, by unfold maxLen; omega, (fun h => by cases h), fun ad e j u hu => by
    cases e
    rw [Addr.add_lit, Nat.zero_add, b2.cell]; exact hu⟩
  have hpl : (C.ps.map ptrv).length = cs'.length := by rw [List.length_map, h.ps, List.length_map]
  obtain ⟨pv', w3, hrun, hrow, hg, hnew⟩ := run_append_row (P := Try.prog) ht hi0 hz0 hzs hzb (by decide) rfl h2.na.rp sl (ptr_one (xs := [c'.b])) (by rw [hpl]; simp; omega)
  have hre : Re w2a 24 C.pv ((C.ps ++ [c'.b]).map ptrv) pv' w3 := ⟨by rw [List.map_append]; exact hrow, (Fr.refl _ _).grown hg (fun k hk => .inl hk), hnew⟩
  have b3 : Blk w3 C.b 70 [C.kv, C.vv, C.pv] := h2.na.blk.same (hre.fr.block _ h2.na.blk.lt h2.na.pb)
  obtain ⟨b4, hw⟩ := blk_setCells C.b 70 [pv'] 2 w3 _ b3 (by simp)
  have b4' : Blk (w3.setCell ⟨C.b, 2, none⟩ pv') C.b 70 [C.kv, C.vv, pv'] := by simpa [World.setCells, splice_eq] using b4
  have hw' : Wrote C.b w3 (w3.setCell ⟨C.b, 2, none⟩ pv') := by simpa [World.setCells] using hw
  have x := Nx.parts h2.na hre b4' hw'
  rw [← e2] at *
  have hs2 := hr.size
  have hs2a := r2.size
  have hsw := h.rb.size
  have ltC : ∀ k, C.has k → k < wr.heap.size := h.na.lt
  have ltc : ∀ c ∈ cs', ∀ k, c.F k → k < wr.heap.size := fun c hc => (h.held c hc).lt d
  have ltc' := hh.lt d
  refine ⟨pv', w3, hrun, b3, ?_, ⟨x.at_, h.ks, h.vs, by show C.ps ++ [c'.b] = _; rw [h.ps, List.map_append]; rfl, ?_, ?_, fun z hz => ?_, ?_, fun z hz k hk hk' => ?_, fun k hk => ?_, fun z hz k hk => ?_, ?_⟩⟩
  · obtain ⟨ao, cap, e, _⟩ := hrow.form
    refine ⟨ao, cap, ?_⟩
    rw [e, List.length_append, hpl]
    rfl
  · have hil : i < cs.length := (List.getElem?_eq_some_iff.1 hi).1
    rw [List.map_append, h.Ms, List.take_succ_eq_append_getElem hil, List.map_append, (List.getElem?_eq_some_iff.1 hi).2]
    simp [hM]
  · have hil : i < cs.length := (List.getElem?_eq_some_iff.1 hi).1
    rw [List.map_append, h.ns, List.take_succ_eq_append_getElem hil, List.map_append, (List.getElem?_eq_some_iff.1 hi).2]
    simp [hn]
  · rcases List.mem_append.1 hz with hz | hz
    · exact (h2.held z hz).fr x.fr (fun k hk hk' => h.off z hz k hk' hk)
    · simp at hz; subst hz
      exact (hh.rb r2).fr x.fr (fun k hk hk' => by have := hF k hk; have := ltC k hk'; omega)
  · refine List.pairwise_append.2 ⟨h.dj, by simp, fun a ha b hb k hk hk' => ?_⟩
    simp at hb; subst hb
    have := ltc a ha k hk
    have := hF k hk'
    omega
  · rcases x.has k hk with h' | h'
    · rcases List.mem_append.1 hz with hz | hz
      · exact h.off z hz k h' hk'
      · simp at hz; subst hz
        have := hF k hk'; have := ltC k h'; omega
    · rcases List.mem_append.1 hz with hz | hz
      · have := ltc z hz k hk'; omega
      · simp at hz; subst hz
        have := ltc' k hk'; omega
  · rcases x.has k hk with h' | h'
    · exact h.new k h'
    · omega
  · rcases List.mem_append.1 hz with hz | hz
    · exact h.newc z hz k hk
    · simp at hz; subst hz
      have := hF k hk; omega
  · exact ((Fr.of_rb (F := fun _ => False) h2.rb).trans x.fr (fun k hk => .inr (h.new k hk))).rb (fun k hk => hk.elim)

theorem Cl.start {w wk wv : World} {d : Nat} {N : Nd} {cs : List Sub} {kv vv : Value} (hw : Rb w wk) (hk : Row wk 2 kv (N.ks.map i64)) (hkn : ∀ k, kv.ownBlock = some k → w.heap.size ≤ k) (hr : Rb wk wv) (hv : Row wv 3 vv (N.vs.map i64)) (hvn : ∀ k, vv.ownBlock = some k → w.heap.size ≤ k) :
    Cl w d N cs 0 (wv.alloc (.cells #[kv, vv, .slice none 0 0] 70)) ⟨wv.heap.size, kv, vv, .slice none 0 0, N.ks, N.vs, []⟩ [] := by
  have ra : Rb wv (wv.alloc (.cells #[kv, vv, .slice none 0 0] 70)) := (Below.refl _ wv).alloc (Nat.le_refl _) _
  have h1 := hw.size
  have h2 := hr.size
  refine ⟨⟨Blk.new wv _ [kv, vv, .slice none 0 0], (hk.rb hr).rb ra, hv.rb ra, Row.nil _ _⟩, rfl, rfl, rfl, by simp, by simp, (fun c hc => by cases hc), List.Pairwise.nil, (fun c hc => by cases hc), fun k hk' => ?_, (fun c hc => by cases hc), Rb.trans _ _ _ hw (Rb.trans _ _ _ hr ra)⟩
  rcases hk' with h | h | h | h
  · have : k = wv.heap.size := h
    omega
  · exact hkn k h
  · exact hvn k h
  · cases h

/-- what clone answers of a part -/
def ClPost (d : Nat) (w : World) (s : Sub) (e : Ending) (w' : World) : Prop := ∃ s', e = .returned (ptrv s'.b) ∧ Held d w' s' ∧ s'.n = s.n ∧ s'.M = s.M ∧ (∀ k, s'.F k → w.heap.size ≤ k) ∧ Rb w w'

set_option maxHeartbeats 4000000 in
set_option maxRecDepth 100000 in
theorem clone_node (w : World) (d : Nat) (N : Nd) (cs : List Sub) (hN : NodeAt w N) (hps : N.ps = cs.map (·.b)) (hk : N.ks.length ≤ 1000) (hv : N.vs.length ≤ 1000) (hc8 : cs.length ≤ 8)
    (CC : ∀ c ∈ cs, ∀ w1, Rb w w1 → Calls Try.prog 37 #[ptrv c.b] w1 (ClPost d w1 c)) :
    Calls Try.prog 37 #[ptrv N.b] w fun e w' => ∃ C cs', e = .returned (ptrv C.b) ∧ Cl w d N cs cs.length w' C cs' := by
  have CK : ∀ w', Rb w w' → Hid (Calls Try.prog 50 #[N.kv] w' fun e w'' => ∃ v', e = .returned v' ∧ Row w'' 2 v' (N.ks.map i64) ∧ (∀ k, v'.ownBlock = some k → w'.heap.size ≤ k) ∧ Rb w' w'') := fun w' hr => clone_any_K w' _ _ (hN.rk.sl.rb hr) (by rw [List.length_map]; omega) i64_one
  have CV : ∀ w', Rb w w' → Hid (Calls Try.prog 51 #[N.vv] w' fun e w'' => ∃ v', e = .returned v' ∧ Row w'' 3 v' (N.vs.map i64) ∧ (∀ k, v'.ownBlock = some k → w'.heap.size ≤ k) ∧ Rb w' w'') := fun w' hr => clone_any_V w' _ _ (hN.rv.sl.rb hr) (by rw [List.length_map]; omega) i64_one
  obtain ⟨aok, capk, ek, _, _⟩ := hN.kform
  obtain ⟨aov, capv, ev, _, _⟩ := hN.vform
  obtain ⟨aop, capp, ep, hpc, _⟩ := hN.pform
  obtain ⟨n, hn⟩ : ∃ n, n = cs.length := ⟨_, rfl⟩
  have hpl : N.ps.length = n := by rw [hps, List.length_map, hn]
  rw [hpl] at ep hpc
  have SEE : Hid (∀ w', Rb w w' → w'.cell? ⟨N.b, 0, none⟩ = some (.slice aok N.ks.length capk) ∧ w'.cell? ⟨N.b, 1, none⟩ = some (.slice aov N.vs.length capv) ∧ w'.cell? ⟨N.b, 2, none⟩ = some (.slice aop n capp)) := fun w' hr => by
    have h := hN.rb hr
    have c0 := h.c0
    have c1 := h.c1
    have c2 := h.c2
    rw [ek] at c0
    rw [ev] at c1
    rw [ep] at c2
    exact ⟨c0, c1, c2⟩
  have PART : Hid (∀ w', Rb w w' → ∀ i, i < n → ∃ g c, aop = some ⟨g, 0, none⟩ ∧ n ≤ capp ∧ cs[i]? = some c ∧ w'.cell? ⟨g, i, none⟩ = some (ptrv c.b)) := fun w' hr i hi => by
    have h := hN.rb hr
    obtain ⟨g, cp, e1, e2, e3, e4⟩ := h.rp.at_ (j := i) (by rw [List.length_map]; omega)
    rw [ep] at e1
    simp only [Value.slice.injEq] at e1
    obtain ⟨rfl, -, rfl⟩ := e1
    refine ⟨g, cs[i], rfl, hpc, List.getElem?_eq_getElem (by omega), ?_⟩
    rw [e4]
    simp [hps]
  have CP : Hid (∀ w', Rb w w' → ∀ i c, cs[i]? = some c → Calls Try.prog 37 #[ptrv c.b] w' (ClPost d w' c)) := fun w' hr i c hc => CC c (List.mem_of_getElem? hc) w' hr
  have HN := Lib.hid hn
  rw [ek] at CK
  rw [ev] at CV
  have hn8 : n ≤ 8 := by omega
  obtain ⟨a0, a1, a2⟩ := SEE.out w (Rb.refl _)
  have RDR := Rb.drew w
  have mixed : Try.prog.follows Departure.mixedOrders = true := by kernel_rfl
  clear hN hps hk hv hc8 CC ek ev ep hpl hn
  rw [← HN.out]
  go_enter Try.func37, Try.ntmps37
  go_upto_region 1 with fail
  go_cut [3] from 6 (fun s3 wr => ∃ C : Nd, s3 = ptrv C.b ∧ Hid (Cl w d N cs 0 wr C []))
  · rename_i J K' hJ hK
    go_region_with (first | (go_at_call 50; refine ((CK _ (by assumption)).out).mono ?_; rintro e wk ⟨kv2, rfl, hkrow, hknew, hkr⟩; obtain ⟨ao5, cap5, e5, _, _⟩ := hkrow.form; rw [List.length_map] at e5; subst e5; have hkw := Rb.trans _ _ _ (by assumption) hkr; have y0 := (SEE.out wk hkw).1; have y1 := (SEE.out wk hkw).2.1) | (go_at_call 51; refine ((CV _ (by assumption)).out).mono ?_; rintro e wv ⟨vv2, rfl, hvrow, hvnew, hvr⟩; obtain ⟨ao6, cap6, e6, _, _⟩ := hvrow.form; rw [List.length_map] at e6; subst e6; have hvw := Rb.trans _ _ _ (by assumption) hvr; have z0 := (SEE.out wv hvw).1; have z1 := (SEE.out wv hvw).2.1))
    all_goals
      have HCL : Hid (Cl w d N cs 0 _ _ []) := Cl.start (N := N) (cs := cs) (d := d) hkw hkrow (fun k hk => hknew k hk) hvr hvrow (fun k hk => Nat.le_trans hkw.size (hvnew k hk))
      clear CK CV hkrow hvrow hknew hvnew hkr hvr hkw hvw y0 y1 z0 z1
      go_wp2_with fail
      go_meet
      exact ⟨⟨wv.heap.size, _, _, _, _, _, _⟩, rfl, HCL⟩
  · obtain ⟨C0, rfl, hC0⟩ := hcut
    clear CK CV a0 a1 a2
    obtain ⟨a0, a1, a2⟩ := SEE.out wc hC0.out.rb
    go_wp2_with fail
    go_loopg [23] n (fun gk s23 wr => ∃ (i : Nat) (C : Nd) (cs' : List Sub), s23 = .int .i64 i ∧ i ≤ n ∧ n - i ≤ gk ∧ C.b = C0.b ∧ Hid (Cl w d N cs i wr C cs'))
    case atStart => exact ⟨0, C0, [], rfl, Nat.zero_le _, by omega, rfl, hC0.out⟩
    case round =>
      obtain ⟨i, C, cs', rfl, h1, h2, hCb, hC⟩ := hrel
      by_cases hin : i < n
      · obtain ⟨g, c, rfl, hpc, hci, cell⟩ := PART.out wr hC.out.rb i hin
        have HI : Hid (i < n ∧ n - i ≤ gk ∧ C.b = C0.b) := ⟨hin, h2, hCb⟩
        have hcl : cs'.length ≤ 8 := by
          have := congrArg List.length hC.out.Ms
          rw [List.length_map, List.length_map, List.length_take] at this
          omega
        obtain ⟨aoq, capq, eq_, _, _⟩ := hC.out.na.pform
        have hql : C.ps.length = cs'.length := by rw [hC.out.ps, List.length_map]
        rw [hql] at eq_
        have CELLS : Hid (∀ w', Rb wr w' → w'.cell? ⟨C0.b, 2, none⟩ = some (.slice aoq cs'.length capq)) := fun w' hr => by
          rw [← hCb]
          have := (hC.out.na.rb hr).c2
          rw [eq_] at this
          exact this
        have x2 := CELLS.out wr (Rb.refl _)
        have RDW := Rb.drew wr
        have STEP : Hid (∀ w2 c', Rb wr w2 → Held d w2 c' → c'.n = c.n → c'.M = c.M → (∀ k, c'.F k → wr.heap.size ≤ k) → ∃ ao3 cap3 w3, (∀ ty, (Builtin.append_ #[68, 68] ty #[.slice aoq cs'.length capq, .slice (some ⟨w2.heap.size, 0, none⟩) 1 1]).run Try.prog (w2.alloc (.cells #[ptrv c'.b] 24)) = .ok (.slice ao3 (cs'.length + 1) cap3) w3) ∧
            w3.cell? ⟨C0.b, 2, none⟩ = some (.slice aoq cs'.length capq) ∧ w3.frozen? ⟨C0.b, 2, none⟩ = false ∧ Hid (∃ C' cs2, C'.b = C0.b ∧ Cl w d N cs (i + 1) (w3.setCell ⟨C0.b, 2, none⟩ (.slice ao3 (cs'.length + 1) cap3)) C' cs2)) := fun w2 c' hr hh e1 e2 hF => by
          rw [← hCb]
          obtain ⟨pv', w3, hrun, hb3, ⟨ao3, cap3, rfl⟩, hcl'⟩ := hC.out.step hci hr hh e1 e2 hF (by omega)
          rw [eq_] at hrun hb3
          have hb' : Nd.b { C with pv := Value.slice ao3 (cs'.length + 1) cap3, ps := C.ps ++ [c'.b] } = C.b := rfl
          exact ⟨ao3, cap3, w3, hrun, hb3.cell 2, hb3.frozen 2, Lib.hid ⟨_, _, hb', hcl'⟩⟩
        have JC := CP.out
        have EN := enters_of (P := Try.prog) Try.func37 (by kernel_rfl) rfl
        have HCI := Lib.hid hci
        have HHD := Lib.hid hC.out.rb
        clear hC h1 h2 hCb hql eq_ hci
        go_wp2_with fail
        go_region_law (first | (refine step_run_call (vs := #[ptrv c.b]) 37 rfl rfl (by simp [Act.eval, Act.put]) (EN _ _) ?_; refine (JC _ (Rb.trans _ _ _ HHD.out (by assumption)) i c HCI.out).mono ?_; rintro e w2 ⟨s2, rfl, k1, k2, k3, k4, k5⟩; obtain ⟨ao3, cap3, w3, ra, x3, f3, hfin⟩ := STEP.out w2 s2 (Rb.trans _ _ _ (by assumption) k5) k1 k2 k3 (fun k hk => k4 k hk); have x4 := CELLS.out w2 (Rb.trans _ _ _ (by assumption) k5); have l4 := World.block_lt_of_cell? w2 _ x4; refine ⟨_, rfl, ?_⟩) | (refine step_run_append rfl rfl (by simp [Act.eval, Act.put]) (by simp [Act.eval, Act.put]) (ra _) ?_))
        all_goals
          have HF := hfin
          clear STEP CELLS JC x3 f3 x4 l4 ra k1 k2 k3 k4 k5 hfin x2 cell
          go_wp2_with fail
          go_roundg (n - (i + 1))
          case measure => have := HI.out; omega
          case rel =>
            obtain ⟨C', cs2, e1, e2⟩ := HF.out
            exact ⟨i + 1, C', cs2, by rw [show ((i : Int) + 1) = ((i + 1 : Nat) : Int) by omega], HI.out.1, Nat.le_refl _, e1, e2⟩
      · have hni : n = i := by omega
        subst hni
        have HC := hC
        clear hC h1 h2 hin
        go_wp2
        go_ret
        refine ⟨C, cs', ?_, HC.out⟩
        rw [hCb]
        rfl
end Go.Proofs.Ytjdlicphmflnkaa.L5
