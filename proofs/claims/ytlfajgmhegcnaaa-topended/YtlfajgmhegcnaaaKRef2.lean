/- Refresh of package token, by a contract. (Printed by gen/kref2.py.) -/
import Derived.Test.YtlfajgmhegcnaaaKRef1
namespace Go.Proofs.Ytlfajgmhegcnaaa
open Go.RowKit Go.Maps Go.Sort Go.Shelf
set_option linter.unusedVariables false
set_option maxRecDepth 20000
set_option maxRecDepth 20000

/-- a family's refresh token is spent -/
def spent (s : Fam.Sess) : Fam.Sess := ⟨s.id, s.ses, s.cli, s.sco, s.nxt + 1⟩
def putFam (l : List Fam.Sess) (s : Fam.Sess) : List Fam.Sess := l.map fun t => if t.id = s.id then s else t
/-- what Refresh answers, and the store behind it -/
def tRefresh (T : Sto) (id num now : Int) : Fam.Sess × Tok.Sess × Int × Sto :=
  if (fAt T id now).2 ≠ 0 then (Fam.sess0, Tok.sess0, (fAt T id now).2, T)
  else if spendErr T (fAt T id now).1 num ≠ 0 then (Fam.sess0, Tok.sess0, spendErr T (fAt T id now).1 num, if spendErr T (fAt T id now).1 num = 13 then ⟨now, (tEnd T id).nf, (tEnd T id).fs, (tEnd T id).nt, (tEnd T id).ts⟩ else T)
  else (spent (fAt T id now).1, ⟨T.nt, (fAt T id now).1.id, (fAt T id now).1.sco, untilOf now⟩, 0, ⟨now, T.nf, putFam T.fs (spent (fAt T id now).1), T.nt + 1, T.ts ++ [⟨T.nt, (fAt T id now).1.id, (fAt T id now).1.sco, untilOf now⟩]⟩)

end Go.Proofs.Ytlfajgmhegcnaaa
