/- CONTRACTS OF PACKAGE vat, together. -/
import Derived.Test.YtgcjhlnolmjdeaaVatF
import Derived.Test.YtgcjhlnolmjdeaaVatP
