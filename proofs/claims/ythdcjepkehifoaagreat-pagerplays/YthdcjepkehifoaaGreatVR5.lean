/- YthdcjepkehifoaaGreatVR4 + YthdcjepkehifoaaGreatVR5 -/
import Derived.Test.YthdcjepkehifoaaGreatVR3
/- Commit of the reference's cache, by a contract. -/
namespace Go.Proofs.YthdcjepkehifoaaGreat
open Go.RowKit Go.Maps Go.Sort Go.Shelf
set_option linter.unusedVariables false
set_option maxRecDepth 20000
/-- Commit of a reference's log, whatever pages -/
theorem r_commit2 {w : World} {B m S G : Nat} {gs : List (List Nat)} {P : Nat} {ls : List (Nat × List UInt8)} {R : Nat → Prop} (h : RQ w B m S G gs P ls R) (hG : G + 1 < 9223372036854775808) (hls : ls.length ≤ 900000) (hbase : B ≤ w.heap.size)
    {lp : List PgV} (hd : ∀ p ∈ lp, p.2.2.1 = 256 → PgOk w R p) (a : Option Addr) (cp : Nat) (hp : 0 < lp.length → ∃ b, a = some ⟨b, 0, none⟩ ∧ PgsAt w b 0 lp) :
    Calls Tryz.prog 75 #[.pointer (some ⟨m, 0, none⟩), .slice a lp.length cp] w (CmR w B m S P G gs ls R lp) := by
  have h0 := h
  obtain ⟨r, F, L, vs, us, h, hi, hR⟩ := h
  have h1 := hi.len
  have h2 := hi.most
  rw [psOf_length, fresh_length] at h1 h2
  rcases (show lp.length = 0 ∨ 100 < lp.length ∨ (0 < lp.length ∧ lp.length ≤ 100) by omega) with hz | hz | ⟨hz1, hz2⟩
  · rw [hz]
    refine (rcommit_none _ _ _ _).mono ?_
    rintro e w' ⟨rfl, rfl⟩
    exact ⟨Out.refl _ _, .inl ⟨0, rfl, .inl ⟨rfl, hz⟩, h0⟩⟩
  · refine (rcommit_long _ _ _ _ _ hz).mono ?_
    rintro e w' ⟨rfl, rfl⟩
    exact ⟨Out.refl _ _, .inl ⟨6, rfl, .inr (.inl ⟨rfl, hz⟩), h0⟩⟩
  · obtain ⟨b, rfl, hpg⟩ := hp hz1
    refine (rcommit_any h hi.used h2 hG hls hbase lp b cp hpg hz1 hz2 (fun p hp' h256 => by
      obtain ⟨b', o', e1, e2, e3, e4, e5⟩ := hd p hp' h256
      exact ⟨b', o', e1, e2, e3, fun hk => e4 (hR b' hk), e5⟩)).mono ?_
    rintro e w' (⟨c, rfl, hc, hb⟩ | ⟨rfl, hcok, L', us', hW, hn, ho⟩)
    · exact ⟨Out.of_below hb, .inl ⟨c, rfl, hc, h0.below hb⟩⟩
    · obtain ⟨g1, g2, g3⟩ := hcok.good
      obtain ⟨hgi, hns⟩ := hcok.nums
      refine ⟨ho.imp fun j _ hj => hR j hj, .inr ⟨rfl, hcok, _, fun j hj => (hn j hj).imp (hR j) id, ⟨r, F, L', vs, us', ?_, ?_, fun j hj => hj⟩⟩⟩
      · rw [usedOf_snoc, hns]; exact hW
      · rw [psOf_append]
        refine hi.commit (numsP (selN lp P)) ((selN lp P).map (bytesAt w)) hgi (by rw [List.length_map, numsP_length]) (fun x hx => ?_) (by have := hcok.2.2.2.2; omega) (by omega)
        obtain ⟨p, hpm, rfl⟩ := List.mem_map.1 hx
        rw [bytesAt_length]
        exact g2 p (selN_mem.1 hpm).1
section
variable {w : World} {B q : Nat} {m : RM} {r : RS} {s : PS}
/-- the group of a reference's cache -/
theorem RPm.pgOk (h : RPm w B q m r) : ∀ p ∈ r.dd.map (rpg m), p.2.2.1 = 256 → PgOk w m.R p := fun p hp _ => by
  obtain ⟨c, hc, rfl⟩ := List.mem_map.1 hp
  obtain ⟨hb, hR, _⟩ := h.dby c hc
  have hl := hb.lt
  obtain ⟨cs, fz, h1, h2⟩ := hb
  have hy := (h.dok c hc).2
  refine ⟨m.db c.1, 0, rfl, rfl, ?_, hR, hl⟩
  have e : bytesAt w (rpg m c) = c.2 := by
    unfold rpg
    rw [← hy]
    exact bytesAt_eq h2
  rw [e]; exact h2
theorem RPm.bytes (h : RPm w B q m r) {c : Nat × List UInt8} (hc : c ∈ r.dd) : bytesAt w (rpg m c) = c.2 := by
  obtain ⟨cs, fz, h1, h2⟩ := (h.dby c hc).1
  have hy := (h.dok c hc).2
  unfold rpg
  rw [← hy]
  exact bytesAt_eq h2
theorem RPm.good (h : RPm w B q m r) : ¬ BadRange r.P (r.dd.map (rpg m)) ∧ ¬ BadForm (r.dd.map (rpg m)) := by
  constructor
  · rintro ⟨p, hp, hb⟩
    obtain ⟨c, hc, rfl⟩ := List.mem_map.1 hp
    have := (h.dok c hc).1
    have e : (rpg m c).1 = (c.1 : Int) := rfl
    rw [e] at hb
    omega
  · rintro (hn | ⟨p, hp, hb⟩)
    · apply hn
      rw [List.map_map]
      have e : (r.dd.map ((fun p : PgV => p.1) ∘ rpg m)) = (r.dd.map (·.1)).map (fun n : Nat => (n : Int)) := by rw [List.map_map]; rfl
      rw [e]
      unfold List.Nodup
      rw [List.pairwise_map]
      exact h.dn.imp (fun h => by omega)
    · obtain ⟨c, hc, rfl⟩ := List.mem_map.1 hp
      exact hb rfl
/-- sorted, it is the program's -/
theorem RPm.sel (h : RPm w B q m r) (ag : Agree s r) (ok : CaOk s) : selN (r.dd.map (rpg m)) r.P = s.dl.map (rpg m) := by
  have h1 : ((r.dd.map (rpg m)).map (·.1)).Nodup := Classical.byContradiction fun hn => h.good.2 (.inl hn)
  have h3 : ∀ p ∈ r.dd.map (rpg m), 0 ≤ p.1 ∧ p.1 < (r.P : Int) := fun p hp => by
    have : ¬ (p.1 < 0 ∨ (r.P : Int) ≤ p.1) := fun hb => h.good.1 ⟨p, hp, hb⟩
    omega
  refine List.Perm.eq_of_pairwise (le := fun a b : PgV => a.1 < b.1) (fun a b _ _ h1 h2 => by omega) (selN_up h1 r.P) ?_ ((selN_perm h1 r.P h3).trans (ag.dd.map _))
  rw [List.pairwise_map]
  exact ok.dup.imp (fun h => by show (_ : Int) < _; exact Int.ofNat_lt.2 h)
theorem numsP_rpg (m : RM) (l : List (Nat × List UInt8)) : numsP (l.map (rpg m)) = l.map (·.1) := by
  unfold numsP
  rw [List.map_map]
  rfl
end
/-- the log is another one -/
theorem RPm.relog {w w1 : World} {B q : Nat} {m : RM} {r : RS} (h : RPm w B q m r) (ho : Out m.R w w1) {G : Nat} {gs : List (List Nat)} {ls : List (Nat × List UInt8)} {R : Nat → Prop} (hq : RQ w1 B m.ml r.S G gs r.P ls R) (hR : ∀ j, R j → m.R j ∨ w.heap.size ≤ j) :
    ∃ R', RPm w1 B q { m with R := R' } { r with G := G, gs := gs, ls := ls } ∧ (∀ j, R' j → m.R j ∨ w.heap.size ≤ j) := by
  have k : ∀ j, j < w.heap.size → ¬ m.R j → w1.heap[j]? = w.heap[j]? := fun j hj hn => ho.block j hj hn
  have hnew : ∀ j, j < w.heap.size → ¬ m.R j → ¬ (R j ∧ B ≤ j ∧ j < w1.heap.size) := fun j hj hn hr => by
    rcases hR j hr.1 with h1 | h1
    · exact hn h1
    · omega
  refine ⟨fun j => R j ∧ B ≤ j ∧ j < w1.heap.size, ⟨(k q (heap_lt h.obj) h.qR).trans h.obj, hq.cut, ownsRow_keep h.crow fun j e => k j (h.crow.lt j e).2 (h.cR j e).1, ownsRow_keep h.prow fun j e => k j (h.prow.lt j e).2 (h.pR j e).1, ownsRow_keep h.drow fun j e => k j (h.drow.lt j e).2 (h.dR j e).1, fun c hc => ⟨(h.dby c hc).1.keep (k _ (h.dby c hc).1.lt (h.dby c hc).2.1), hnew _ (h.dby c hc).1.lt (h.dby c hc).2.1, (h.dby c hc).2.2⟩, h.dok, h.dn, fun j e => ⟨hnew j (h.crow.lt j e).2 (h.cR j e).1, (h.cR j e).2⟩, fun j e => ⟨hnew j (h.prow.lt j e).2 (h.pR j e).1, (h.pR j e).2⟩, fun j e => ⟨hnew j (h.drow.lt j e).2 (h.dR j e).1, (h.dR j e).2⟩, hnew q (heap_lt h.obj) h.qR, fun j hj => hj.2, h.Bq⟩, fun j hj => hR j hj.1⟩
theorem RPm.relogO {w w1 : World} {B q : Nat} {m : RM} {r : RS} (h : RPm w B q m r) (ho : Out m.R w w1) {G : Nat} {gs : List (List Nat)} {ls : List (Nat × List UInt8)} {R : Nat → Prop} (hq : RQ w1 B m.ml r.S G gs r.P ls R) (hR : ∀ j, R j → m.R j ∨ w.heap.size ≤ j) :
    ∃ R', RPm w1 B q { m with R := R' } { r with G := G, gs := gs, ls := ls } ∧ Out (rWr q m) w w1 ∧ (∀ j, R' j → m.R j ∨ w.heap.size ≤ j) ∧ ∀ k, rAll q { m with R := R' } { r with G := G, gs := gs, ls := ls } k → rAll q m r k ∨ w.heap.size ≤ k := by
  obtain ⟨R', h1, h2⟩ := h.relog ho hq hR
  refine ⟨R', h1, ho.imp (fun _ _ e => .inr e), h2, fun k hk => ?_⟩
  rcases hk with e | e | e | e | e | e
  · exact .inl (.inl e)
  · exact (h2 k e).imp (fun e => .inr (.inl e)) id
  · exact .inl (.inr (.inr (.inl e)))
  · exact .inl (.inr (.inr (.inr (.inl e))))
  · exact .inl (.inr (.inr (.inr (.inr (.inl e)))))
  · exact .inl (.inr (.inr (.inr (.inr (.inr e)))))
/-- what the log's Commit leaves of the cache -/
def RC1 (w : World) (B q : Nat) (m : RM) (r : RS) (s : PS) (c : Int) (w' : World) : Prop :=
  (r.dd.length = 0 ∧ c = 0 ∧ RPo w B q m r r w') ∨ (0 < r.dd.length ∧ r.S < usedOf r.gs + r.dd.length + 1 ∧ c = 7 ∧ RPo w B q m r r w') ∨
  (0 < r.dd.length ∧ usedOf r.gs + r.dd.length + 1 ≤ r.S ∧ c = 0 ∧ RPo w B q m r { r with G := r.G + 1, gs := r.gs ++ [dNs s], ls := r.ls ++ commitWs (usedOf r.gs) r.G (dNs s) (dXs s) } w')
theorem rlogCommit {w : World} {B q : Nat} {m : RM} {r : RS} {s : PS} (h : RPm w B q m r) (ag : Agree s r) (ok : CaOk s) (hG : r.G ≤ 1000000) (hls : r.ls.length ≤ 900000) (hdd : r.dd.length ≤ 100) (a : Option Addr) (n c : Nat) (hn : n = r.dd.length) (hdv : m.dv = .slice a n c) :
    Calls Tryz.prog 75 #[.pointer (some ⟨m.ml, 0, none⟩), .slice a n c] w fun e w' => ∃ c : Int, e = .returned (.int .i64 c) ∧ RC1 w B q m r s c w' ∧ w'.heap[q]? = w.heap[q]? := by
  subst hn
  have hb : B ≤ w.heap.size := by have := heap_lt h.obj; have := h.Bq; omega
  have hp : 0 < (r.dd.map (rpg m)).length → ∃ b, a = some ⟨b, 0, none⟩ ∧ PgsAt w b 0 (r.dd.map (rpg m)) := fun h0 => by
    have hrow := h.drow
    rw [List.length_map] at h0
    rw [hdv, List.length_map] at hrow
    obtain ⟨g, c', e1, _, _⟩ := hrow.form h0
    cases e1
    exact ⟨g, rfl, pgs_of_row (by rw [List.length_map]; exact hrow)⟩
  have hc := r_commit2 h.log (by omega) hls hb h.pgOk a c hp
  rw [List.length_map] at hc
  refine hc.mono ?_
  rintro e w' ⟨ho, hcase⟩
  have hq0 := ho.block q (heap_lt h.obj) h.qR
  rcases hcase with ⟨c', rfl, hce, hq⟩ | ⟨rfl, hco, R', hR, hq⟩
  · have hkeep : RPo w B q m r r w' := by
      obtain ⟨R2, h1, h2, h3, h4⟩ := h.relogO ho hq (fun j hj => .inl hj)
      exact ⟨_, h1, h2, h3, h4⟩
    refine ⟨c', rfl, ?_, hq0⟩
    unfold CErr at hce
    rw [List.length_map] at hce
    rcases hce with ⟨h1, h2⟩ | ⟨_, h2⟩ | ⟨h1, h2, (⟨_, h3⟩ | ⟨_, _, h3⟩ | ⟨h5, _, _, h6⟩)⟩
    · exact .inl ⟨h2, h1, hkeep⟩
    · omega
    · exact absurd h3 h.good.1
    · exact absurd h3 h.good.2
    · exact .inr (.inl ⟨h1, h6, h5, hkeep⟩)
  · refine ⟨0, rfl, .inr (.inr ?_), hq0⟩
    obtain ⟨h1, h2, _, _, h5⟩ := hco
    rw [List.length_map] at h1 h2 h5
    refine ⟨h1, h5, rfl, ?_⟩
    have e1 : numsP (selN (r.dd.map (rpg m)) r.P) = dNs s := by rw [h.sel ag ok, numsP_rpg]; rfl
    have e2 : (selN (r.dd.map (rpg m)) r.P).map (bytesAt w) = dXs s := by
      rw [h.sel ag ok, List.map_map]
      exact List.map_congr_left fun c hc => h.bytes (ag.dd.mem_iff.2 hc)
    rw [e1, e2] at hq
    obtain ⟨R2, h1, h2, h3, h4⟩ := h.relogO ho hq hR
    exact ⟨_, h1, h2, h3, h4⟩
theorem rlogCheck {w : World} {B q : Nat} {m : RM} {r : RS} (h : RPm w B q m r) (hG : r.G ≤ 1000000) (hls : r.ls.length ≤ 900000) :
    Calls Tryz.prog 74 #[.pointer (some ⟨m.ml, 0, none⟩)] w fun e w' => e = .returned (.int .i64 0) ∧ RPo w B q m r { r with gs := [], ls := r.ls ++ cpWs r.S r.P r.G r.gs r.ls } w' := by
  have hb : B ≤ w.heap.size := by have := heap_lt h.obj; have := h.Bq; omega
  refine (r_check h.log (by omega) hls hb).mono ?_
  rintro e w' ⟨rfl, R', hq, hR, ho⟩
  obtain ⟨R2, h1, h2, h3, h4⟩ := h.relogO ho hq hR
  exact ⟨rfl, _, h1, h2, h3, h4⟩
end Go.Proofs.YthdcjepkehifoaaGreat

/- Commit of the reference's cache, by a contract: the walk. -/
namespace Go.Proofs.YthdcjepkehifoaaGreat
open Go.RowKit Go.Maps Go.Sort Go.Shelf
set_option linter.unusedVariables false
set_option maxRecDepth 20000
def RComPost (w : World) (B q : Nat) (m : RM) (r : RS) (s : PS) (e : Ending) (w' : World) : Prop :=
  (comOk s ∧ e = .returned (.int .i64 0) ∧ RPo w B q m r { r with G := (commitS s).G, gs := (commitS s).gs, ls := (commitS s).ls, dd := [] } w') ∨
  (¬ comOk s ∧ e = .returned (.int .i64 7) ∧ RPo w B q m r { r with gs := (fullS s).gs, ls := (fullS s).ls } w')
theorem RPo.store {w w1 : World} {B q : Nat} {m : RM} {r r1 : RS} (h : RPo w B q m r r1 w1) : RPo w B q m r { r1 with dd := [] } (w1.setCell ⟨q, 2, none⟩ (.slice none 0 0)) := by
  obtain ⟨m1, h1, ho, hR, hA⟩ := h
  exact RPo.then ho hR hA h1.noneO
set_option maxHeartbeats 4000000 in
theorem rpCommit_any {w : World} {B q : Nat} {m : RM} {r : RS} {s : PS} (h : RPm w B q m r) (ag : Agree s r) (ok : CaOk s) (hG : r.G ≤ 900000) (hls : r.ls.length ≤ 800000) (hdd : r.dd.length ≤ 100) (hP : r.P ≤ 1024) :
    Calls Tryz.prog 109 #[.pointer (some ⟨q, 0, none⟩)] w (RComPost w B q m r s) := by
  have hlen : r.dd.length = s.dl.length := ag.dd.length_eq
  obtain ⟨da, dk, hdv⟩ := own_slc h.drow
  rw [List.length_map] at hdv
  have c0 := h.c0
  have c2 := h.c2
  rw [hdv] at c2
  have bdr : Below w.heap.size w w.drew := ⟨rfl, rfl, rfl, Nat.le_refl _, fun _ _ => rfl⟩
  have Hcm := hid (rlogCommit (h.below bdr) ag ok (by omega) (by omega) hdd da r.dd.length dk rfl hdv)
  have H := hid h
  have Hdv := hid hdv
  have Hag := hid ag
  have Hok := hid ok
  have Hlen := hid hlen
  have Hbd := hid bdr
  have Hcells : Hid (∀ u : World, u.heap[q]? = w.heap[q]? → u.cell? ⟨q, 0, none⟩ = some (.pointer (some ⟨m.ml, 0, none⟩)) ∧ u.cell? ⟨q, 2, none⟩ = some (.slice da r.dd.length dk)) := fun u hu => ⟨(World.cell?_of_block (a := ⟨q, 0, none⟩) hu).trans c0, (World.cell?_of_block (a := ⟨q, 2, none⟩) hu).trans c2⟩
  unfold RComPost
  clear h hdv ag ok hlen bdr
  go_enter Tryz.func109, Tryz.ntmps109
  go_wp2
  go_region_held3 (fun w9 => w9.cell? ⟨q, 0, none⟩ = some (.pointer (some ⟨m.ml, 0, none⟩)) ∧ w9.cell? ⟨q, 2, none⟩ = some (.slice da r.dd.length dk)) (first | exact ⟨c0, c2⟩ | exact q1.out)
    ((go_at_call 75; refine Hcm.out.mono ?_; rintro e w1 ⟨cc, rfl, hrc, hq1⟩; have q1 := hid (Hcells.out w1 hq1); have HRC := hid hrc; clear hrc hq1))
  clear c0 c2 Hcm
  have c01 := q1.out.1
  have c21 := q1.out.2
  clear q1
  have hrc := HRC.out
  clear HRC
  rcases hrc with ⟨h0, rfl, hpo⟩ | ⟨h0, hnf, rfl, hpo⟩ | ⟨h0, hfi, rfl, hpo⟩
  · have HP := hid (RPo.ahead Hbd.out hpo)
    have z21 : w1.frozen? ⟨q, 2, none⟩ = false := by obtain ⟨m1, h1, _⟩ := hpo; exact h1.z 2
    have H0 := hid h0
    clear hpo h0
    go_wp2
    go_ret
    refine .inl ⟨.inl (by have := H0.out; have := Hlen.out; omega), rfl, ?_⟩
    have e : commitS s = { s with t := s.t + 3 } := by unfold commitS; rw [if_pos (by have := H0.out; have := Hlen.out; omega)]
    have h6 := HP.out.store
    rw [e]
    have e2 : ({ r with G := s.G, gs := s.gs, ls := s.ls, dd := [] } : RS) = { r with dd := [] } := by rw [← Hag.out.G, ← Hag.out.gs, ← Hag.out.ls]
    show RPo w B q m r { r with G := s.G, gs := s.gs, ls := s.ls, dd := [] } _
    rw [e2]
    exact h6
  · obtain ⟨m1, h1, ho1, hR1, hA1⟩ := RPo.ahead Hbd.out hpo
    have Hck := hid (rlogCheck h1 (by omega) (by omega))
    have hml : m1.ml = m.ml := by
      have h9 := h1.c0
      rw [c01] at h9
      simpa using h9.symm
    rw [hml] at Hck
    have H1 := hid h1
    have HO1 := hid ho1
    have HR1 := hid hR1
    have HA1 := hid hA1
    have H0 := hid h0
    have Hnf := hid hnf
    clear hpo h0 hnf h1 ho1 hR1 hA1 hml
    go_wp2_with (fail)
    refine Hck.out.mono ?_
    rintro e w2 ⟨rfl, hpo2⟩
    obtain ⟨m2, h2, ho2, hR2, hA2⟩ := hpo2
    obtain ⟨da2, dk2, hdv2⟩ := own_slc h2.drow
    rw [List.length_map] at hdv2
    obtain ⟨r2, hr2⟩ : ∃ r2 : RS, r2 = { r with gs := [], ls := r.ls ++ cpWs r.S r.P r.G r.gs r.ls } := ⟨_, rfl⟩
    rw [← hr2] at h2 hA2
    have ag2 : Agree (ckS s) r2 := by
      rw [hr2]
      refine ⟨Hag.out.S, Hag.out.P, Hag.out.G, rfl, ?_, Hag.out.mo, Hag.out.ord, Hag.out.hi, Hag.out.mi, Hag.out.dd, Hag.out.pn, Hag.out.pm⟩
      show r.ls ++ cpWs r.S r.P r.G r.gs r.ls = s.ls ++ cpWs s.S s.P s.G s.gs s.ls
      rw [Hag.out.S, Hag.out.P, Hag.out.G, Hag.out.gs, Hag.out.ls]
    have ok2 : CaOk (ckS s) := ⟨Hok.out.nd, Hok.out.olt, Hok.out.ol, Hok.out.mo1, Hok.out.mo2, Hok.out.dup, Hok.out.dlt, Hok.out.dlen, Hok.out.hit, Hok.out.mit⟩
    have hls2 : r2.ls.length ≤ 900000 := by
      rw [hr2]
      show (r.ls ++ cpWs r.S r.P r.G r.gs r.ls).length ≤ _
      rw [List.length_append]
      have : (cpWs r.S r.P r.G r.gs r.ls).length ≤ r.P + 1 := by
        unfold cpWs
        split
        · simp
        · unfold checkWs
          rw [List.length_append]
          unfold homeWs
          rw [List.length_map]
          have := touched_len r.P r.gs
          simp
          omega
      omega
    have hdd2 : r2.dd = r.dd := by rw [hr2]
    have hdv2' : m2.dv = .slice da2 r.dd.length dk2 := hdv2
    have bdr2 : Below w2.heap.size w2 w2.drew := ⟨rfl, rfl, rfl, Nat.le_refl _, fun _ _ => rfl⟩
    have Hcm2 := hid (rlogCommit (h2.below bdr2) ag2 ok2 (by rw [hr2]; show r.G ≤ _; omega) hls2 (by rw [hdd2]; exact hdd) da2 r.dd.length dk2 (by rw [hdd2]) hdv2')
    have c02 := h2.c0
    have c22 := h2.c2
    rw [hdv2'] at c22
    have Hcells2 : Hid (∀ u : World, u.heap[q]? = w2.heap[q]? → u.cell? ⟨q, 0, none⟩ = some (.pointer (some ⟨m2.ml, 0, none⟩)) ∧ u.cell? ⟨q, 2, none⟩ = some (.slice da2 r.dd.length dk2)) := fun u hu => ⟨(World.cell?_of_block (a := ⟨q, 0, none⟩) hu).trans c02, (World.cell?_of_block (a := ⟨q, 2, none⟩) hu).trans c22⟩
    have Hbd2 := hid bdr2
    have H2 := hid h2
    have HO2 := hid ho2
    have HR2 := hid hR2
    have HA2 := hid hA2
    have Hr2 := hid hr2
    clear h2 ho2 hR2 hA2 hdv2 hdv2' ag2 ok2 hls2 hdd2 bdr2 hr2 c01 c21 Hck
    go_wp2
    go_region_held3 (fun w9 => w9.cell? ⟨q, 0, none⟩ = some (.pointer (some ⟨m2.ml, 0, none⟩)) ∧ w9.cell? ⟨q, 2, none⟩ = some (.slice da2 r.dd.length dk2)) (first | exact ⟨c02, c22⟩ | exact q3.out)
      ((go_at_call 75; refine Hcm2.out.mono ?_; rintro e w3 ⟨cc, rfl, hrc, hq3⟩; have q3 := hid (Hcells2.out w3 hq3); have HRC := hid hrc; clear hrc hq3))
    clear c02 c22 Hcm2
    have c23 := q3.out.2
    clear q3
    have hrc := HRC.out
    clear HRC
    have hre : r2.dd.length = r.dd.length := by rw [Hr2.out]
    have hrS : r2.S = r.S := by rw [Hr2.out]
    have hru : usedOf r2.gs = 0 := by rw [Hr2.out]; rfl
    rcases hrc with ⟨h0', rfl, hpo⟩ | ⟨h0', hnf', rfl, hpo⟩ | ⟨h0', hfi', rfl, hpo⟩
    · exfalso; have := H0.out; omega
    · have HP := hid (RPo.then HO1.out HR1.out HA1.out (RPo.then HO2.out HR2.out HA2.out (RPo.ahead Hbd2.out hpo)))
      have Hno : Hid (¬ comOk s) := by
        show ¬ comOk s
        unfold comOk
        have := Hag.out.S
        have := Hlen.out
        omega
      clear hpo h0' hnf' hre hrS hru
      go_wp2
      go_ret
      refine .inr ⟨Hno.out, rfl, ?_⟩
      have e2 : ({ r with gs := (fullS s).gs, ls := (fullS s).ls } : RS) = r2 := by
        rw [Hr2.out]
        show ({ r with gs := [], ls := s.ls ++ cpWs s.S s.P s.G s.gs s.ls } : RS) = _
        rw [← Hag.out.S, ← Hag.out.P, ← Hag.out.G, ← Hag.out.gs, ← Hag.out.ls]
      rw [e2]
      exact HP.out
    · have HP := hid (RPo.then HO1.out HR1.out HA1.out (RPo.then HO2.out HR2.out HA2.out (RPo.ahead Hbd2.out hpo)))
      have z23 : w3.frozen? ⟨q, 2, none⟩ = false := by obtain ⟨m3, h3, _⟩ := hpo; exact h3.z 2
      have Hyes : Hid (comOk s) := by
        show comOk s
        unfold comOk
        have := Hag.out.S
        have := Hlen.out
        omega
      clear hpo h0' hfi' hre hrS hru
      go_wp2
      go_ret
      refine .inl ⟨Hyes.out, rfl, ?_⟩
      have h6 := HP.out.store
      have hnf2 : ¬ fits s := by
        unfold fits
        have := Hnf.out
        have h7 := Hag.out.S
        have h8 := Hag.out.gs
        rw [h7, h8] at this
        have := Hlen.out
        omega
      have e : commitS s = { cmS (ckS s) with t := s.t + 3 } := by
        unfold commitS
        rw [if_neg (by have := H0.out; have := Hlen.out; omega), if_neg hnf2]
      rw [e]
      have e2 : ({ ({ r2 with G := r2.G + 1, gs := r2.gs ++ [dNs (ckS s)], ls := r2.ls ++ commitWs (usedOf r2.gs) r2.G (dNs (ckS s)) (dXs (ckS s)) } : RS) with dd := [] } : RS) = { r with G := (cmS (ckS s)).G, gs := (cmS (ckS s)).gs, ls := (cmS (ckS s)).ls, dd := [] } := by
        rw [Hr2.out]
        show ({ r with G := r.G + 1, gs := [] ++ [dNs s], ls := (r.ls ++ cpWs r.S r.P r.G r.gs r.ls) ++ commitWs (usedOf []) r.G (dNs s) (dXs s), dd := [] } : RS) = { r with G := s.G + 1, gs := [] ++ [dNs s], ls := (s.ls ++ cpWs s.S s.P s.G s.gs s.ls) ++ commitWs (usedOf []) s.G (dNs s) (dXs s), dd := [] }
        rw [← Hag.out.S, ← Hag.out.P, ← Hag.out.G, ← Hag.out.gs, ← Hag.out.ls]
      rw [e2] at h6
      exact h6
  · have HP := hid (RPo.ahead Hbd.out hpo)
    have z21 : w1.frozen? ⟨q, 2, none⟩ = false := by obtain ⟨m1, h1, _⟩ := hpo; exact h1.z 2
    have H0 := hid h0
    have Hfi := hid hfi
    clear hpo h0 hfi
    go_wp2
    go_ret
    have hf2 : fits s := by
      unfold fits
      have := Hfi.out
      have h7 := Hag.out.S
      have h8 := Hag.out.gs
      rw [h7, h8] at this
      have := Hlen.out
      omega
    refine .inl ⟨.inr (by unfold fits at hf2; omega), rfl, ?_⟩
    have e : commitS s = { cmS s with t := s.t + 3 } := by
      unfold commitS
      rw [if_neg (by have := H0.out; have := Hlen.out; omega), if_pos hf2]
    have h6 := HP.out.store
    rw [e]
    have e2 : ({ ({ r with G := r.G + 1, gs := r.gs ++ [dNs s], ls := r.ls ++ commitWs (usedOf r.gs) r.G (dNs s) (dXs s) } : RS) with dd := [] } : RS) = { r with G := (cmS s).G, gs := (cmS s).gs, ls := (cmS s).ls, dd := [] } := by
      show ({ r with G := r.G + 1, gs := r.gs ++ [dNs s], ls := r.ls ++ commitWs (usedOf r.gs) r.G (dNs s) (dXs s), dd := [] } : RS) = { r with G := s.G + 1, gs := s.gs ++ [dNs s], ls := s.ls ++ commitWs (usedOf s.gs) s.G (dNs s) (dXs s), dd := [] }
      rw [← Hag.out.G, ← Hag.out.gs, ← Hag.out.ls]
    rw [e2] at h6
    exact h6
end Go.Proofs.YthdcjepkehifoaaGreat
